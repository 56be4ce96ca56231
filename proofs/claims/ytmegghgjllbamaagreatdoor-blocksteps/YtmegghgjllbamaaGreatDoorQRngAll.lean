/- Doubles that are whole numbers below 2^53: sums, differences and products of them are exact, and so are the ways from and to integers. -/
import Derived.WalkLawsBesides
import Derived.Test.YtmegghgjllbamaaGreatDoorRows
import Derived.WalkKit
import Derived.WalkSpells
import Derived.Deep.RegionHeld3
import Derived.RowKit3
set_option linter.unusedVariables false
set_option maxRecDepth 100000
namespace Go.Proofs.YtmegghgjllbamaaGreatDoor.Rng
namespace Whole
open Go Ieee

/-- The double x is the whole number n. -/
def Is (x : Nat) (n : Int) : Prop := ∃ (s : Bool) (k : Nat), double.read x = .number s (n.natAbs * 2 ^ k) (-(k : Int)) ∧ (n ≠ 0 → s = decide (n < 0))

theorem cut0 (s : Bool) (a : Nat) : Toward.even.cut s a 0 = a := by
  simp [Toward.cut, Nat.mod_one]

theorem log2_mul (a k : Nat) (h : a ≠ 0) : (a * 2 ^ k).log2 = a.log2 + k := by
  rw [← Nat.shiftLeft_eq]
  induction k with
  | zero => simp
  | succ k ih =>
    have hk : a <<< k ≠ 0 := by
      rw [Nat.shiftLeft_eq]; exact Nat.mul_ne_zero h (by have := Nat.two_pow_pos k; omega)
    rw [Nat.shiftLeft_succ, Nat.log2_two_mul hk, ih]
    omega

theorem cutK (w : Toward) (hw : w = .even ∨ w = .zero) (s : Bool) (a d k : Nat) (h : a ≠ 0) (hd : d ≤ k) : w.cut s (a * 2 ^ k) d = a * 2 ^ (k - d) := by
  have hm : min d ((a * 2 ^ k).log2 + 2) = d := by rw [log2_mul _ _ h]; omega
  have hk : a * 2 ^ k = a * 2 ^ (k - d) * 2 ^ d := by
    rw [Nat.mul_assoc, ← Nat.pow_add]; congr 2; omega
  have hp : 0 < 2 ^ d := Nat.two_pow_pos d
  unfold Toward.cut
  rw [hm, Nat.shiftLeft_eq, Nat.one_mul]
  have h1 : a * 2 ^ k / 2 ^ d = a * 2 ^ (k - d) := by rw [hk, Nat.mul_div_cancel _ hp]
  have h2 : a * 2 ^ k % 2 ^ d = 0 := by rw [hk, Nat.mul_mod_left]
  rcases hw with rfl | rfl
  · have h3 : ¬ (2 ^ d = 0) := by omega
    simp only [h1, h2]
    simp
  · simp only [h1]
    simp

theorem sw : double.signWeight = 9223372036854775808 := by simp [double, Format.signWeight]

theorem bn : double.binade = 4503599627370496 := by simp [double, Format.binade]

theorem ir : double.infRung = 9218868437227405312 := by simp [double, Format.infRung, Format.binade]

theorem lp : double.leastPlace = -1074 := by simp [double, Format.leastPlace]

theorem fb : double.fractionBits = 52 := rfl

theorem word_parts (s : Bool) (r : Nat) (h : r < 9223372036854775808) : (double.word s r / 9223372036854775808 % 2 == 1) = s ∧ double.word s r % 9223372036854775808 = r := by
  cases s
  · have e : double.word false r = r := rfl
    rw [e]
    have e1 : r / 9223372036854775808 % 2 = 0 := by omega
    rw [e1]; exact ⟨rfl, by omega⟩
  · have e : double.word true r = 9223372036854775808 + r := by
      show double.signWeight + r = _
      rw [sw]
    rw [e]
    have e1 : (9223372036854775808 + r) / 9223372036854775808 % 2 = 1 := by omega
    rw [e1]; exact ⟨rfl, by omega⟩

theorem read_word (s : Bool) (r : Nat) (h1 : 4503599627370496 ≤ r) (h2 : r < 9218868437227405312) : double.read (double.word s r) = .number s (4503599627370496 + r % 4503599627370496) (-1074 + ((r / 4503599627370496 - 1 : Nat) : Int)) := by
  obtain ⟨p1, p2⟩ := word_parts s r (by omega)
  unfold Format.read
  rw [sw, bn, ir, lp]
  simp only [p1, p2]
  rw [if_neg (by omega), if_pos h2]

theorem read_nearest (s : Bool) (a k : Nat) (h : a ≠ 0) (hb : a < 2 ^ 53) : double.read (double.nearest s (a * 2 ^ k) (-(k : Int))) = .number s (a * 2 ^ (52 - a.log2)) (-((52 - a.log2 : Nat) : Int)) := by
  have hL : a.log2 ≤ 52 := by
    have := (Nat.log2_lt h (k := 53)).2 hb; omega
  have lo : 2 ^ a.log2 ≤ a := Nat.log2_self_le h
  have hi : a < 2 ^ (a.log2 + 1) := Nat.lt_log2_self
  have hlog := log2_mul a k h
  have hm : a * 2 ^ k ≠ 0 := Nat.mul_ne_zero h (by have := Nat.two_pow_pos k; omega)
  generalize hLe : a.log2 = L at *
  have flo : 2 ^ 52 ≤ a * 2 ^ (52 - L) := by
    have e := Nat.pow_add 2 L (52 - L)
    have e' : L + (52 - L) = 52 := by omega
    rw [e'] at e
    rw [e]; exact Nat.mul_le_mul_right _ lo
  have fhi : a * 2 ^ (52 - L) < 2 ^ 53 := by
    have e := Nat.pow_add 2 (L + 1) (52 - L)
    have e' : L + 1 + (52 - L) = 53 := by omega
    rw [e'] at e
    rw [e]; exact Nat.mul_lt_mul_of_pos_right hi (Nat.two_pow_pos _)
  have kept : Toward.even.cut s ((a * 2 ^ k) <<< ((-(k : Int)) - ((L : Int) - 52)).toNat) (((L : Int) - 52) - (-(k : Int))).toNat = a * 2 ^ (52 - L) := by
    by_cases c : k ≤ 52 - L
    · have e1 : ((-(k : Int)) - ((L : Int) - 52)).toNat = 52 - L - k := by omega
      have e2 : (((L : Int) - 52) - (-(k : Int))).toNat = 0 := by omega
      have e3 : k + (52 - L - k) = 52 - L := by omega
      rw [e1, e2, cut0, Nat.shiftLeft_eq, Nat.mul_assoc, ← Nat.pow_add, e3]
    · have e1 : ((-(k : Int)) - ((L : Int) - 52)).toNat = 0 := by omega
      have e2 : (((L : Int) - 52) - (-(k : Int))).toNat = k - (52 - L) := by omega
      have e3 : k - (k - (52 - L)) = 52 - L := by omega
      rw [e1, e2, Nat.shiftLeft_zero, cutK _ (Or.inl rfl) _ _ _ _ h (by omega), e3]
  have lst : max ((-(k : Int)) + ((L + k : Nat) : Int) - (double.fractionBits : Int)) double.leastPlace = (L : Int) - 52 := by
    rw [fb, lp]; omega
  unfold Format.nearest
  rw [if_neg hm, hlog]
  simp only [lst, kept]
  generalize a * 2 ^ (52 - L) = f at *
  have e3 : ((L : Int) - 52 - double.leastPlace).toNat = L + 1022 := by
    rw [lp]; omega
  have flo' : 4503599627370496 ≤ f := flo
  have fhi' : f < 9007199254740992 := fhi
  clear flo fhi kept lst
  have e4 : min ((L + 1022) * double.binade + f) double.infRung = (L + 1022) * 4503599627370496 + f := by
    rw [bn, ir]; omega
  rw [e3, e4, read_word s _ (by omega) (by omega)]
  have m1 : 4503599627370496 + ((L + 1022) * 4503599627370496 + f) % 4503599627370496 = f := by omega
  have m2 : ((L + 1022) * 4503599627370496 + f) / 4503599627370496 - 1 = L + 1022 := by omega
  have m3 : (-1074 : Int) + ((L + 1022 : Nat) : Int) = -((52 - L : Nat) : Int) := by omega
  rw [m1, m2, m3]

theorem read_zero (s : Bool) (p : Int) : double.read (double.nearest s 0 p) = .number s 0 (-1074) := by
  obtain ⟨p1, p2⟩ := word_parts s 0 (by omega)
  unfold Format.nearest
  rw [if_pos rfl]
  unfold Format.read
  rw [sw, bn, ir, lp]
  simp only [p1, p2]
  rw [if_pos (by omega)]

theorem is_nearest (s : Bool) (n : Int) (k : Nat) (hs : n ≠ 0 → s = decide (n < 0)) (hb : n.natAbs < 2 ^ 53) : Is (double.nearest s (n.natAbs * 2 ^ k) (-(k : Int))) n := by
  by_cases h : n = 0
  · subst h
    have e : ∃ k : Nat, (k : Int) = 1074 := ⟨1074, rfl⟩
    obtain ⟨j, hj⟩ := e
    refine ⟨s, j, ?_, hs⟩
    rw [hj, show Int.natAbs 0 = 0 from rfl, Nat.zero_mul, Nat.zero_mul, read_zero]
  · exact ⟨s, _, read_nearest s n.natAbs k (by omega) hb, hs⟩

theorem of_int (n : Int) (hb : n.natAbs < 2 ^ 53) : Is (floatOfInt .f64 n) n := by
  have := is_nearest (decide (n < 0)) n 0 (fun _ => rfl) hb
  simpa [floatOfInt, FloatKind.nearest, FloatKind.encode, FloatKind.format, Format.write] using this

theorem mul_is {x y : Nat} {a b : Int} (hx : Is x a) (hy : Is y b) (hb : (a * b).natAbs < 2 ^ 53) : ∃ r, floatBits .mul .f64 x y = some r ∧ Is r (a * b) := by
  obtain ⟨s, i, rx, sx⟩ := hx
  obtain ⟨t, j, ry, sy⟩ := hy
  have e : a.natAbs * 2 ^ i * (b.natAbs * 2 ^ j) = (a * b).natAbs * 2 ^ (i + j) := by
    rw [Int.natAbs_mul, Nat.pow_add, Nat.mul_mul_mul_comm]
  have e2 : (-(i : Int)) + (-(j : Int)) = -((i + j : Nat) : Int) := by omega
  refine ⟨double.nearest (s ^^ t) ((a * b).natAbs * 2 ^ (i + j)) (-((i + j : Nat) : Int)), ?_, is_nearest _ _ _ ?_ hb⟩
  · simp [floatBits, FloatKind.format, Format.mul, rx, ry, Datum.product, Format.write, e, e2]
  · intro h
    have ha : a ≠ 0 := by rintro rfl; simp at h
    have hb' : b ≠ 0 := by rintro rfl; simp at h
    rw [sx ha, sy hb']
    rcases Int.lt_trichotomy a 0 with h1 | h1 | h1
    · rcases Int.lt_trichotomy b 0 with h2 | h2 | h2
      · have := Int.mul_pos_of_neg_of_neg h1 h2
        simp [h1, h2]; omega
      · omega
      · have := Int.mul_neg_of_neg_of_pos h1 h2
        have h3 : ¬ b < 0 := by omega
        simp [h1, h3, this]
    · omega
    · rcases Int.lt_trichotomy b 0 with h2 | h2 | h2
      · have := Int.mul_neg_of_pos_of_neg h1 h2
        have h3 : ¬ a < 0 := by omega
        simp [h2, h3, this]
      · omega
      · have := Int.mul_pos h1 h2
        have h3 : ¬ a < 0 := by omega
        have h4 : ¬ b < 0 := by omega
        have h5 : ¬ a * b < 0 := by omega
        simp [h3, h4, h5]

theorem signed_is (s : Bool) (a : Int) (i B : Nat) (hs : a ≠ 0 → s = decide (a < 0)) (h : i ≤ B) : signed s (a.natAbs * 2 ^ i) (B - i) = a * 2 ^ B := by
  have e : a.natAbs * 2 ^ i * 2 ^ (B - i) = a.natAbs * 2 ^ B := by
    rw [Nat.mul_assoc, ← Nat.pow_add]; congr 2; omega
  unfold signed
  rw [Nat.shiftLeft_eq, e]
  by_cases ha : a = 0
  · subst ha; simp
  · rw [hs ha]
    have p : ((2 ^ B : Nat) : Int) = (2 : Int) ^ B := by simp
    by_cases hn : a < 0
    · have : (a.natAbs : Int) = -a := by omega
      simp only [hn, decide_true, if_true, Int.natCast_mul, this, p]
      rw [Int.neg_mul, Int.neg_neg]
    · have : (a.natAbs : Int) = a := by omega
      simp [hn, Int.natCast_mul, this, p]

theorem sum_is (s t : Bool) (i j : Nat) (a b : Int) (hs : a ≠ 0 → s = decide (a < 0)) (ht : b ≠ 0 → t = decide (b < 0)) (hb : (a + b).natAbs < 2 ^ 53) :
    ∃ d, Datum.sum (.number s (a.natAbs * 2 ^ i) (-(i : Int))) (.number t (b.natAbs * 2 ^ j) (-(j : Int))) = some d ∧ Is (double.write d) (a + b) := by
  have hB : ∃ B : Nat, B = max i j := ⟨_, rfl⟩
  obtain ⟨B, hB⟩ := hB
  have e0 : min (-(i : Int)) (-(j : Int)) = -(B : Int) := by omega
  have e1 : (-(i : Int) - -(B : Int)).toNat = B - i := by omega
  have e2 : (-(j : Int) - -(B : Int)).toNat = B - j := by omega
  refine ⟨_, rfl, ?_⟩
  simp only [e0, e1, e2, signed_is s a i B hs (by omega), signed_is t b j B ht (by omega), ← Int.add_mul]
  have p : (0 : Int) < 2 ^ B := by exact Int.pow_pos (by omega)
  have na : ((a + b) * 2 ^ B).natAbs = (a + b).natAbs * 2 ^ B := by rw [Int.natAbs_mul, Int.natAbs_pow]; rfl
  rw [na]
  show Is (double.nearest _ _ _) _
  refine is_nearest _ _ _ ?_ hb
  intro h
  have h' : ¬ (a + b) * 2 ^ B = 0 := by
    intro c; rcases Int.mul_eq_zero.1 c with c | c <;> omega
  rw [if_neg h']
  rcases Int.lt_trichotomy (a + b) 0 with h1 | h1 | h1
  · have := Int.mul_neg_of_neg_of_pos h1 p
    simp [h1, this]
  · omega
  · have := Int.mul_pos h1 p
    have h3 : ¬ a + b < 0 := by omega
    have h4 : ¬ (a + b) * 2 ^ B < 0 := by omega
    simp only [h3, h4]

theorem add_is {x y : Nat} {a b : Int} (hx : Is x a) (hy : Is y b) (hb : (a + b).natAbs < 2 ^ 53) : ∃ r, floatBits .add .f64 x y = some r ∧ Is r (a + b) := by
  obtain ⟨s, i, rx, sx⟩ := hx
  obtain ⟨t, j, ry, sy⟩ := hy
  obtain ⟨d, h1, h2⟩ := sum_is s t i j a b sx sy hb
  exact ⟨double.write d, by simp [floatBits, FloatKind.format, Format.add, rx, ry, h1], h2⟩

theorem sub_is {x y : Nat} {a b : Int} (hx : Is x a) (hy : Is y b) (hb : (a - b).natAbs < 2 ^ 53) : ∃ r, floatBits .sub .f64 x y = some r ∧ Is r (a - b) := by
  obtain ⟨s, i, rx, sx⟩ := hx
  obtain ⟨t, j, ry, sy⟩ := hy
  have ht : -b ≠ 0 → (!t) = decide (-b < 0) := by
    intro h
    rw [sy (by omega)]
    by_cases c : b < 0
    · have : ¬ -b < 0 := by omega
      simp [c]; omega
    · have : -b < 0 := by omega
      simp [c]; omega
  obtain ⟨d, h1, h2⟩ := sum_is s (!t) i j a (-b) sx ht (by rw [← Int.sub_eq_add_neg]; exact hb)
  rw [Int.natAbs_neg] at h1
  rw [← Int.sub_eq_add_neg] at h2
  exact ⟨double.write d, by simp [floatBits, FloatKind.format, Format.sub, rx, ry, Datum.opposite, h1], h2⟩

theorem to_int {x : Nat} {n : Int} (hx : Is x n) (k : IntKind) (h1 : k.min ≤ n) (h2 : n ≤ k.max) : floatToIntVal .f64 x k = some n := by
  obtain ⟨s, i, rx, sx⟩ := hx
  have e1 : (-(i : Int)).toNat = 0 := by omega
  have e2 : (- -(i : Int)).toNat = i := by omega
  have c : Toward.zero.cut s (n.natAbs * 2 ^ i) i = n.natAbs := by
    by_cases h : n = 0
    · subst h; simp [Toward.cut]
    · rw [cutK _ (Or.inr rfl) _ _ _ _ (by omega) (Nat.le_refl _)]; simp
  have sg : signed s n.natAbs 0 = n := by
    have := signed_is s n 0 0 sx (Nat.le_refl _)
    simpa using this
  have t : (double.read x).toInt .zero = some n := by
    rw [rx]
    simp only [Datum.toInt, Datum.integral, e1, e2, Nat.shiftLeft_zero, c, sg]
  simp [floatToIntVal, FloatKind.decode, FloatKind.format, t, h1, h2]

/-- The square of a complex number with whole parts. -/
theorem sq_is {a b : Nat} {x y : Int} (ha : Is a x) (hb : Is b y) (hx : 0 ≤ x ∧ x ≤ 65520) (hy : 0 ≤ y ∧ y ≤ 65520) :
    ∃ re im, cMulBits a b a b = some (re, im) ∧ Is re (x * x - y * y) ∧ Is im (2 * (x * y)) := by
  have h1 : 0 ≤ x * x ∧ x * x ≤ 65520 * 65520 := ⟨Int.mul_nonneg hx.1 hx.1, Int.mul_le_mul hx.2 hx.2 hx.1 (by omega)⟩
  have h2 : 0 ≤ y * y ∧ y * y ≤ 65520 * 65520 := ⟨Int.mul_nonneg hy.1 hy.1, Int.mul_le_mul hy.2 hy.2 hy.1 (by omega)⟩
  have h3 : 0 ≤ x * y ∧ x * y ≤ 65520 * 65520 := ⟨Int.mul_nonneg hx.1 hy.1, Int.mul_le_mul hx.2 hy.2 hy.1 (by omega)⟩
  have h4 : y * x = x * y := Int.mul_comm ..
  obtain ⟨ac, e1, i1⟩ := mul_is ha ha (by omega)
  obtain ⟨bd, e2, i2⟩ := mul_is hb hb (by omega)
  obtain ⟨re, e3, i3⟩ := sub_is i1 i2 (by omega)
  obtain ⟨ad, e4, i4⟩ := mul_is ha hb (by omega)
  obtain ⟨bc, e5, i5⟩ := mul_is hb ha (by omega)
  obtain ⟨im, e6, i6⟩ := add_is i4 i5 (by omega)
  refine ⟨re, im, ?_, i3, ?_⟩
  · simp [cMulBits, e1, e2, e3, e4, e5, e6]
  · rw [h4, ← Int.two_mul] at i6; exact i6

theorem plus_is {a b c d : Nat} {x y u v : Int} (ha : Is a x) (hb : Is b y) (hc : Is c u) (hd : Is d v) (h1 : (x + u).natAbs < 2 ^ 53) (h2 : (y + v).natAbs < 2 ^ 53) :
    ∃ re im, cSumBits .add .f64 a b c d = some (re, im) ∧ Is re (x + u) ∧ Is im (y + v) := by
  obtain ⟨re, e1, i1⟩ := add_is ha hc h1
  obtain ⟨im, e2, i2⟩ := add_is hb hd h2
  exact ⟨re, im, by simp [cSumBits, e1, e2], i1, i2⟩

end Whole
end Go.Proofs.YtmegghgjllbamaaGreatDoor.Rng

/- Contracts of what the program makes complex numbers of, and of its parts. -/
namespace Go.Proofs.YtmegghgjllbamaaGreatDoor.Rng
open Go.RowKit
set_option linter.unusedVariables false
set_option maxRecDepth 100000

theorem hide {p : Prop} (h : p) : Hid p := h

theorem ret_int {k : IntKind} {a b : Int} (h : a = b) : Ending.returned (.int k a) = .returned (.int k b) := by rw [h]

/-- The double of a whole number. -/
def num (n : Int) : Nat := floatOfInt .f64 n

theorem num_is (n : Int) (h1 : 0 ≤ n) (h2 : n ≤ 65520) : Whole.Is (num n) n := Whole.of_int n (by omega)

theorem part_eq (n : Int) : (n.tmod 65521 + 65521).tmod 65521 = n % 65521 := by
  have h : n.tmod 65521 = if 0 ≤ n then n % 65521 else -((-n) % 65521) := by
    split
    · rename_i h; exact Int.tmod_eq_emod_of_nonneg h
    · rename_i h
      have e : n.tmod 65521 = -((-n).tmod 65521) := by rw [Int.neg_tmod, Int.neg_neg]
      rw [e, Int.tmod_eq_emod_of_nonneg (by omega)]
  rw [h]
  split
  · rw [Int.tmod_eq_emod_of_nonneg (by omega)]; omega
  · rw [Int.tmod_eq_emod_of_nonneg (by omega)]; omega

theorem part_in (n : Int) : wrap64 (n.tmod 65521 + 65521) = n.tmod 65521 + 65521 := by
  have h1 := Int.tmod_lt_of_pos n (b := 65521) (by decide)
  have h2 : -65521 < n.tmod 65521 := by
    have := Int.tmod_lt_of_pos (-n) (b := 65521) (by decide)
    rw [Int.neg_tmod] at this; omega
  unfold wrap64
  omega

theorem part_any (n : Int) (w : World) :
    Calls Tryz.prog 65 #[.int .i64 n] w fun e w' => e = .returned (.int .i64 (n % 65521)) ∧ w' = w := by
  go_enter Tryz.func65, Tryz.ntmps65
  go_wp2
  go_ret
  exact ⟨ret_int (by rw [part_in]; exact part_eq n), rfl⟩

theorem number_any (a b : Int) (w : World) :
    Calls Tryz.prog 33 #[.int .i64 a, .int .i64 b] w fun e w' => e = .returned (.complex .f64 (num (a % 65521)) (num (b % 65521))) ∧ w' = w := by
  go_enter Tryz.func33, Tryz.ntmps33
  go_wp2_with fail
  refine (part_any a _).mono ?_
  rintro e w' ⟨rfl, rfl⟩
  go_wp2_with fail
  refine (part_any b _).mono ?_
  rintro e w' ⟨rfl, rfl⟩
  go_wp2
  go_ret
  exact ⟨rfl, rfl⟩

theorem halves_any (n : Int) (h1 : 0 ≤ n) (h2 : n ≤ 4294967295) (w : World) :
    Calls Tryz.prog 32 #[.int .u32 n] w fun e w' => e = .returned (.complex .f64 (num (n % 65536 % 65521)) (num (n / 65536 % 65521))) ∧ w' = w := by
  go_enter Tryz.func32, Tryz.ntmps32
  go_wp2_with fail
  refine (number_any (n % 65536) (n / 65536) _).mono ?_
  rintro e w' ⟨rfl, rfl⟩
  go_wp2
  go_ret
  exact ⟨rfl, rfl⟩

theorem conv_int {a : Nat} {x : Int} (h : Whole.Is a x) (h1 : -9223372036854775808 ≤ x) (h2 : x ≤ 9223372036854775807) (w : World) : (convert 134 3 (.float .f64 a)).run Tryz.prog w = .ok (.int .i64 x) w :=
  run_convert_float_int w 134 3 .f64 .i64 a x (by rw [Tryz.underlying134]; rfl) Tryz.underlying3 (Whole.to_int h .i64 h1 h2)

theorem conv_word {a : Nat} {x : Int} (h : Whole.Is a x) (h1 : 0 ≤ x) (h2 : x ≤ 4294967295) (w : World) : (convert 134 23 (.float .f64 a)).run Tryz.prog w = .ok (.int .u32 x) w :=
  run_convert_float_int w 134 23 .f64 .u32 a x (by rw [Tryz.underlying134]; rfl) Tryz.underlying23 (Whole.to_int h .u32 h1 h2)

theorem reduced_any {a b : Nat} {x y : Int} (ha : Whole.Is a x) (hb : Whole.Is b y) (h1 : -10000000000 ≤ x) (h2 : x ≤ 10000000000) (h3 : -10000000000 ≤ y) (h4 : y ≤ 10000000000) (w : World) :
    Calls Tryz.prog 127 #[.complex .f64 a b] w fun e w' => e = .returned (.complex .f64 (num (x % 65521)) (num (y % 65521))) ∧ w' = w := by
  have c1 := conv_int ha (by omega) (by omega)
  have c2 := conv_int hb (by omega) (by omega)
  clear ha hb
  go_enter Tryz.func127, Tryz.ntmps127
  go_wp2_with fail
  refine (number_any x y _).mono ?_
  rintro e w' ⟨rfl, rfl⟩
  go_wp2
  go_ret
  exact ⟨rfl, rfl⟩

theorem told_any (x y u v : Int) (x1 : 0 ≤ x) (x2 : x ≤ 65520) (y1 : 0 ≤ y) (y2 : y ≤ 65520) (u1 : 0 ≤ u) (u2 : u ≤ 65520) (v1 : 0 ≤ v) (v2 : v ≤ 65520) (w : World) :
    Calls Tryz.prog 34 #[.agg #[.complex .f64 (num x) (num y), .complex .f64 (num u) (num v)]] w fun e w' =>
      e = .returned (.agg #[.int .i64 x, .int .i64 y, .int .i64 u, .int .i64 v]) ∧ Below w.heap.size w w' := by
  have c1 := conv_int (num_is x x1 x2) (by omega) (by omega)
  have c2 := conv_int (num_is y y1 y2) (by omega) (by omega)
  have c3 := conv_int (num_is u u1 u2) (by omega) (by omega)
  have c4 := conv_int (num_is v v1 v2) (by omega) (by omega)
  go_enter Tryz.func34, Tryz.ntmps34
  go_wp2
  refine bodyPost_ret (v := .agg #[.int .i64 x, .int .i64 y, .int .i64 u, .int .i64 v]) (by simp [results, Tryz.results34, go_sem]) rfl ⟨rfl, ?_⟩
  exact ((Below.refl _ _).alloc (Nat.le_refl _) _).alloc (by simp) _

theorem word_any (x y u v : Int) (x1 : 0 ≤ x) (x2 : x ≤ 65520) (y1 : 0 ≤ y) (y2 : y ≤ 65520) (w : World) :
    Calls Tryz.prog 140 #[.agg #[.complex .f64 (num x) (num y), .complex .f64 (num u) (num v)]] w fun e w' =>
      e = .returned (.int .u32 (x + 65536 * y)) ∧ Below w.heap.size w w' := by
  have c1 := conv_word (num_is x x1 x2) (by omega) (by omega)
  have c2 := conv_word (num_is y y1 y2) (by omega) (by omega)
  go_enter Tryz.func140, Tryz.ntmps140
  go_wp2
  go_ret
  exact ⟨rfl, (Below.refl _ _).alloc (Nat.le_refl _) _⟩

end Go.Proofs.YtmegghgjllbamaaGreatDoor.Rng

/- Contracts of a place made of numbers, of its next one, and of one that is stirred. -/
namespace Go.Proofs.YtmegghgjllbamaaGreatDoor.Rng
open Go.RowKit
set_option linter.unusedVariables false
set_option maxRecDepth 100000

theorem store_complex (w : World) (a : Addr) (m : Mode) (k : FloatKind) (x y : Nat) : (store a (.complex k x y) m).run Tryz.prog w = stored Tryz.prog w a (.complex k x y) m := run_store Tryz.prog w a _ m rfl

set_option maxHeartbeats 2000000 in
theorem placeOf_raw (f : Int → Nat) (hn : ∀ a b w, Calls Tryz.prog 33 #[.int .i64 a, .int .i64 b] w fun e w' => e = .returned (.complex .f64 (f a) (f b)) ∧ w' = w) (a b c d : Int) (w : World) :
    Calls Tryz.prog 106 #[.agg #[.int .i64 a, .int .i64 b, .int .i64 c, .int .i64 d]] w fun e w' =>
      e = .returned (.agg #[.complex .f64 (f a) (f b), .complex .f64 (f c) (f d)]) ∧ Below w.heap.size w w' := by
  go_enter Tryz.func106, Tryz.ntmps106
  go_wp2
  generalize hW : (w.alloc (.cells #[.int .i64 a, .int .i64 b, .int .i64 c, .int .i64 d] 51)).alloc (.cells #[.complex .f64 0 0, .complex .f64 0 0] 97) = W
  have hb : Below w.heap.size w W := hW ▸ ((Below.refl _ _).alloc (Nat.le_refl _) _).alloc (by simp) _
  have k0 : W.cell? ⟨w.heap.size, 0, none⟩ = some (.int .i64 a) := by rw [← hW]; simp [go_sem]
  have k1 : W.cell? ⟨w.heap.size, 1, none⟩ = some (.int .i64 b) := by rw [← hW]; simp [go_sem]
  have k2 : W.cell? ⟨w.heap.size, 2, none⟩ = some (.int .i64 c) := by rw [← hW]; simp [go_sem]
  have k3 : W.cell? ⟨w.heap.size, 3, none⟩ = some (.int .i64 d) := by rw [← hW]; simp [go_sem]
  have r0 : W.cell? ⟨w.heap.size + 1, 0, none⟩ = some (.complex .f64 0 0) := by rw [← hW]; simp [go_sem]
  have r1 : W.cell? ⟨w.heap.size + 1, 1, none⟩ = some (.complex .f64 0 0) := by rw [← hW]; simp [go_sem]
  have f0 : W.frozen? ⟨w.heap.size + 1, 0, none⟩ = false := by rw [← hW]; simp [go_sem]
  have f1 : W.frozen? ⟨w.heap.size + 1, 1, none⟩ = false := by rw [← hW]; simp [go_sem]
  clear hW
  have hst := store_complex
  go_region_held3 (fun x => x.cell? ⟨w.heap.size, 0, none⟩ = some (.int .i64 a) ∧ x.cell? ⟨w.heap.size, 1, none⟩ = some (.int .i64 b) ∧ x.cell? ⟨w.heap.size, 2, none⟩ = some (.int .i64 c) ∧ x.cell? ⟨w.heap.size, 3, none⟩ = some (.int .i64 d)) (go_keep) (first | (go_at_call 33; refine (hn _ _ _).mono ?_; rintro e w' ⟨rfl, rfl⟩))
  go_wp2
  refine bodyPost_ret (v := .agg #[.complex .f64 (f a) (f b), .complex .f64 (f c) (f d)]) (by simp [results, Tryz.results106, go_sem, r0, r1]) rfl ⟨rfl, ?_⟩
  exact ((hb.setCell (by simp) _).setCell (by simp) _).drew

set_option maxHeartbeats 2000000 in
theorem next_raw {A B C D M1 M2 S1 S2 E F : Nat} (hm : cMulBits A B A B = some (M1, M2)) (hs : cSumBits .add .f64 M1 M2 C D = some (S1, S2))
    (hr : ∀ w, Calls Tryz.prog 127 #[.complex .f64 S1 S2] w fun e w' => e = .returned (.complex .f64 E F) ∧ w' = w) (w : World) :
    Calls Tryz.prog 139 #[.agg #[.complex .f64 A B, .complex .f64 C D]] w fun e w' =>
      e = .returned (.agg #[.complex .f64 E F, .complex .f64 C D]) ∧ Below w.heap.size w w' := by
  have o1 := fun t w => run_complex_mul (P := Tryz.prog) w t A B A B M1 M2 hm
  have o2 := fun t w => run_complex_sum (P := Tryz.prog) w .add (Or.inl rfl) t .f64 M1 M2 C D S1 S2 hs
  clear hm hs
  go_enter Tryz.func139, Tryz.ntmps139
  go_wp2
  generalize hW : (w.alloc (.cells #[.complex .f64 A B, .complex .f64 C D] 97)).alloc (.cells #[.complex .f64 0 0, .complex .f64 0 0] 97) = W
  have hb : Below w.heap.size w W := hW ▸ ((Below.refl _ _).alloc (Nat.le_refl _) _).alloc (by simp) _
  have k0 : W.cell? ⟨w.heap.size, 0, none⟩ = some (.complex .f64 A B) := by rw [← hW]; simp [go_sem]
  have k1 : W.cell? ⟨w.heap.size, 1, none⟩ = some (.complex .f64 C D) := by rw [← hW]; simp [go_sem]
  have r0 : W.cell? ⟨w.heap.size + 1, 0, none⟩ = some (.complex .f64 0 0) := by rw [← hW]; simp [go_sem]
  have r1 : W.cell? ⟨w.heap.size + 1, 1, none⟩ = some (.complex .f64 0 0) := by rw [← hW]; simp [go_sem]
  have f0 : W.frozen? ⟨w.heap.size + 1, 0, none⟩ = false := by rw [← hW]; simp [go_sem]
  have f1 : W.frozen? ⟨w.heap.size + 1, 1, none⟩ = false := by rw [← hW]; simp [go_sem]
  clear hW
  have hst := store_complex
  go_region_held3 (fun x => x.cell? ⟨w.heap.size, 0, none⟩ = some (.complex .f64 A B) ∧ x.cell? ⟨w.heap.size, 1, none⟩ = some (.complex .f64 C D)) (go_keep) (first | (go_at_call 127; refine (hr _).mono ?_; rintro e w' ⟨rfl, rfl⟩))
  go_wp2
  refine bodyPost_ret (v := .agg #[.complex .f64 E F, .complex .f64 C D]) (by simp [results, Tryz.results139, go_sem, r0, r1]) rfl ⟨rfl, ?_⟩
  exact ((hb.setCell (by simp) _).setCell (by simp) _).drew

set_option maxHeartbeats 2000000 in
theorem stirred_raw {A B C D H1 H2 S1 S2 E F : Nat} {n : Int} (hh : ∀ w, Calls Tryz.prog 32 #[.int .u32 n] w fun e w' => e = .returned (.complex .f64 H1 H2) ∧ w' = w) (hs : cSumBits .add .f64 A B H1 H2 = some (S1, S2))
    (hr : ∀ w, Calls Tryz.prog 127 #[.complex .f64 S1 S2] w fun e w' => e = .returned (.complex .f64 E F) ∧ w' = w) (w : World) :
    Calls Tryz.prog 107 #[.agg #[.complex .f64 A B, .complex .f64 C D], .int .u32 n] w fun e w' =>
      e = .returned (.agg #[.complex .f64 E F, .complex .f64 C D]) ∧ Below w.heap.size w w' := by
  have o2 := fun t w => run_complex_sum (P := Tryz.prog) w .add (Or.inl rfl) t .f64 A B H1 H2 S1 S2 hs
  clear hs
  go_enter Tryz.func107, Tryz.ntmps107
  go_wp2
  generalize hW : (w.alloc (.cells #[.complex .f64 A B, .complex .f64 C D] 97)).alloc (.cells #[.complex .f64 0 0, .complex .f64 0 0] 97) = W
  have hb : Below w.heap.size w W := hW ▸ ((Below.refl _ _).alloc (Nat.le_refl _) _).alloc (by simp) _
  have k0 : W.cell? ⟨w.heap.size, 0, none⟩ = some (.complex .f64 A B) := by rw [← hW]; simp [go_sem]
  have k1 : W.cell? ⟨w.heap.size, 1, none⟩ = some (.complex .f64 C D) := by rw [← hW]; simp [go_sem]
  have r0 : W.cell? ⟨w.heap.size + 1, 0, none⟩ = some (.complex .f64 0 0) := by rw [← hW]; simp [go_sem]
  have r1 : W.cell? ⟨w.heap.size + 1, 1, none⟩ = some (.complex .f64 0 0) := by rw [← hW]; simp [go_sem]
  have f0 : W.frozen? ⟨w.heap.size + 1, 0, none⟩ = false := by rw [← hW]; simp [go_sem]
  have f1 : W.frozen? ⟨w.heap.size + 1, 1, none⟩ = false := by rw [← hW]; simp [go_sem]
  clear hW
  have hst := store_complex
  go_region_held3 (fun x => x.cell? ⟨w.heap.size, 0, none⟩ = some (.complex .f64 A B) ∧ x.cell? ⟨w.heap.size, 1, none⟩ = some (.complex .f64 C D)) (go_keep) (first | (go_at_call 127; refine (hr _).mono ?_; rintro e w' ⟨rfl, rfl⟩) | (go_at_call 32; refine (hh _).mono ?_; rintro e w' ⟨rfl, rfl⟩))
  go_wp2
  refine bodyPost_ret (v := .agg #[.complex .f64 E F, .complex .f64 C D]) (by simp [results, Tryz.results107, go_sem, r0, r1]) rfl ⟨rfl, ?_⟩
  exact ((hb.setCell (by simp) _).setCell (by simp) _).drew

end Go.Proofs.YtmegghgjllbamaaGreatDoor.Rng

/- Contracts of the program's four calls over whatever its inner functions answer. -/
namespace Go.Proofs.YtmegghgjllbamaaGreatDoor.Rng
open Go.RowKit
set_option linter.unusedVariables false
set_option maxRecDepth 100000

theorem bcell {W w1 : World} (hb : Below W.heap.size W w1) : (∀ b o, b < W.heap.size → w1.cell? ⟨b, o, none⟩ = W.cell? ⟨b, o, none⟩) ∧ (∀ b o, b < W.heap.size → w1.frozen? ⟨b, o, none⟩ = W.frozen? ⟨b, o, none⟩) :=
  ⟨fun b o h => hb.cell (p := ⟨b, o, none⟩) h, fun b o h => hb.frozen (p := ⟨b, o, none⟩) h⟩

theorem set4 {n b : Nat} {w W : World} {v0 v1 v2 v3 : Value} (h : Below n w W) (hb : n ≤ b) : Below n w ((((W.setCell ⟨b, 0, none⟩ v0).setCell ⟨b, 1, none⟩ v1).setCell ⟨b, 2, none⟩ v2).setCell ⟨b, 3, none⟩ v3) :=
  (((h.setCell hb _).setCell hb _).setCell hb _).setCell hb _

set_option maxHeartbeats 2000000 in
theorem seed_raw {A B C D : Nat} {n x y u v : Int} (hh : ∀ w, Calls Tryz.prog 32 #[.int .u32 n] w fun e w' => e = .returned (.complex .f64 A B) ∧ w' = w)
    (hn : ∀ w, Calls Tryz.prog 33 #[.int .i64 12345, .int .i64 6789] w fun e w' => e = .returned (.complex .f64 C D) ∧ w' = w)
    (ht : ∀ w, Calls Tryz.prog 34 #[.agg #[.complex .f64 A B, .complex .f64 C D]] w fun e w' => e = .returned (.agg #[.int .i64 x, .int .i64 y, .int .i64 u, .int .i64 v]) ∧ Below w.heap.size w w') (w : World) :
    Calls Tryz.prog 13 #[.int .u32 n] w fun e w' => e = .returned (.agg #[.int .i64 x, .int .i64 y, .int .i64 u, .int .i64 v]) ∧ Below w.heap.size w w' := by
  go_enter Tryz.func13, Tryz.ntmps13
  go_wp2_with fail
  refine (hh _).mono ?_
  rintro e w' ⟨rfl, rfl⟩
  go_wp2_with fail
  refine (hn _).mono ?_
  rintro e w' ⟨rfl, rfl⟩
  go_wp2_with fail
  refine (ht _).mono ?_
  rintro e w1 ⟨rfl, hb⟩
  obtain ⟨hc, hf⟩ := bcell hb
  go_wp2
  refine bodyPost_ret (v := .agg #[.int .i64 x, .int .i64 y, .int .i64 u, .int .i64 v]) (by simp [results, Tryz.results13, go_sem, hc]) rfl ⟨rfl, ?_⟩
  exact set4 (((Below.refl _ w).alloc (Nat.le_refl _) _).trans (hb.mono (by simp))) (Nat.le_refl _)

set_option maxHeartbeats 2000000 in
theorem stir_raw {A B C D E F : Nat} {n a b c d x y u v : Int}
    (hp : ∀ w, Calls Tryz.prog 106 #[.agg #[.int .i64 a, .int .i64 b, .int .i64 c, .int .i64 d]] w fun e w' => e = .returned (.agg #[.complex .f64 A B, .complex .f64 C D]) ∧ Below w.heap.size w w')
    (hs : ∀ w, Calls Tryz.prog 107 #[.agg #[.complex .f64 A B, .complex .f64 C D], .int .u32 n] w fun e w' => e = .returned (.agg #[.complex .f64 E F, .complex .f64 C D]) ∧ Below w.heap.size w w')
    (ht : ∀ w, Calls Tryz.prog 34 #[.agg #[.complex .f64 E F, .complex .f64 C D]] w fun e w' => e = .returned (.agg #[.int .i64 x, .int .i64 y, .int .i64 u, .int .i64 v]) ∧ Below w.heap.size w w') (w : World) :
    Calls Tryz.prog 69 #[.agg #[.int .i64 a, .int .i64 b, .int .i64 c, .int .i64 d], .int .u32 n] w fun e w' => e = .returned (.agg #[.int .i64 x, .int .i64 y, .int .i64 u, .int .i64 v]) ∧ Below w.heap.size w w' := by
  go_enter Tryz.func69, Tryz.ntmps69
  go_wp2_with fail
  refine (hp _).mono ?_
  rintro e w1 ⟨rfl, hb1⟩
  obtain ⟨hc1, hf1⟩ := bcell hb1
  have z1 : w.heap.size + 1 < w1.heap.size := by have := hb1.size; simp at this; omega
  go_wp2_with fail
  refine (hs _).mono ?_
  rintro e w2 ⟨rfl, hb2⟩
  obtain ⟨hc2, hf2⟩ := bcell hb2
  have z2 : w.heap.size + 1 < w2.heap.size := by have := hb2.size; omega
  go_wp2_with fail
  refine (ht _).mono ?_
  rintro e w3 ⟨rfl, hb3⟩
  obtain ⟨hc3, hf3⟩ := bcell hb3
  go_wp2
  refine bodyPost_ret (v := .agg #[.int .i64 x, .int .i64 y, .int .i64 u, .int .i64 v]) (by simp [results, Tryz.results69, go_sem, hc1, hc2, hc3, z1, z2]) rfl ⟨rfl, ?_⟩
  exact set4 ((((((Below.refl _ w).alloc (Nat.le_refl _) _).alloc (by simp) _).trans (hb1.mono (by simp; omega))).trans (hb2.mono (by omega))).trans (hb3.mono (by omega))) (by omega)

/-- A row of a place's two numbers in block L stands behind a call; nothing old has turned. -/
theorem held_on {L R n : Nat} {w x y : World} {c d : Value}
    (h : x.cell? ⟨L, 0, none⟩ = some c ∧ x.cell? ⟨L, 1, none⟩ = some d ∧ (∀ o, x.frozen? ⟨R, o, none⟩ = false) ∧ L < x.heap.size ∧ R < x.heap.size ∧ Below n w x) (hn : n ≤ w.heap.size) (hb : Below x.heap.size x y) :
    y.cell? ⟨L, 0, none⟩ = some c ∧ y.cell? ⟨L, 1, none⟩ = some d ∧ (∀ o, y.frozen? ⟨R, o, none⟩ = false) ∧ L < y.heap.size ∧ R < y.heap.size ∧ Below n w y := by
  obtain ⟨h0, h1, h2, h3, h4, h5⟩ := h
  obtain ⟨hc, hf⟩ := bcell hb
  have hz := hb.size
  have hz2 := h5.size
  exact ⟨by rw [hc _ _ h3, h0], by rw [hc _ _ h3, h1], fun o => by rw [hf _ _ h4, h2], by omega, by omega, h5.trans (hb.mono (by omega))⟩

theorem held_set {L R n : Nat} {w x : World} {c d v0 v1 v2 v3 : Value}
    (h : x.cell? ⟨L, 0, none⟩ = some c ∧ x.cell? ⟨L, 1, none⟩ = some d ∧ (∀ o, x.frozen? ⟨R, o, none⟩ = false) ∧ L < x.heap.size ∧ R < x.heap.size ∧ Below n w x) (hR : n ≤ R) (hd : R ≠ L) :
    let y := (((x.setCell ⟨R, 0, none⟩ v0).setCell ⟨R, 1, none⟩ v1).setCell ⟨R, 2, none⟩ v2).setCell ⟨R, 3, none⟩ v3
    y.cell? ⟨L, 0, none⟩ = some c ∧ y.cell? ⟨L, 1, none⟩ = some d ∧ (∀ o, y.frozen? ⟨R, o, none⟩ = false) ∧ L < y.heap.size ∧ R < y.heap.size ∧ Below n w y := by
  obtain ⟨h0, h1, h2, h3, h4, h5⟩ := h
  refine ⟨?_, ?_, ?_, ?_, ?_, set4 h5 hR⟩
  · simp [World.cell?_setCell_far, hd, h0]
  · simp [World.cell?_setCell_far, hd, h1]
  · intro o; simp [h2]
  · simpa using h3
  · simpa using h4

theorem held_below {L R n : Nat} {w x : World} {c d : Value}
    (h : x.cell? ⟨L, 0, none⟩ = some c ∧ x.cell? ⟨L, 1, none⟩ = some d ∧ (∀ o, x.frozen? ⟨R, o, none⟩ = false) ∧ L < x.heap.size ∧ R < x.heap.size ∧ Below n w x) : Below n w x := h.2.2.2.2.2

theorem zeros_on {L R n : Nat} {w x y : World} {c d : Value} {v : Value} (h : x.cell? ⟨R, 0, none⟩ = some v ∧ x.cell? ⟨R, 1, none⟩ = some v ∧ x.cell? ⟨R, 2, none⟩ = some v ∧ x.cell? ⟨R, 3, none⟩ = some v)
    (hS : x.cell? ⟨L, 0, none⟩ = some c ∧ x.cell? ⟨L, 1, none⟩ = some d ∧ (∀ o, x.frozen? ⟨R, o, none⟩ = false) ∧ L < x.heap.size ∧ R < x.heap.size ∧ Below n w x) (hb : Below x.heap.size x y) :
    y.cell? ⟨R, 0, none⟩ = some v ∧ y.cell? ⟨R, 1, none⟩ = some v ∧ y.cell? ⟨R, 2, none⟩ = some v ∧ y.cell? ⟨R, 3, none⟩ = some v := by
  obtain ⟨hc, hf⟩ := bcell hb
  have z := hS.2.2.2.2.1
  exact ⟨by rw [hc _ _ z, h.1], by rw [hc _ _ z, h.2.1], by rw [hc _ _ z, h.2.2.1], by rw [hc _ _ z, h.2.2.2]⟩

set_option maxHeartbeats 4000000 in
theorem next_over {A B C D E F : Nat} {g a b c d x y u v : Int}
    (hp : ∀ w, Calls Tryz.prog 106 #[.agg #[.int .i64 a, .int .i64 b, .int .i64 c, .int .i64 d]] w fun e w' => e = .returned (.agg #[.complex .f64 A B, .complex .f64 C D]) ∧ Below w.heap.size w w')
    (hn : ∀ w, Calls Tryz.prog 139 #[.agg #[.complex .f64 A B, .complex .f64 C D]] w fun e w' => e = .returned (.agg #[.complex .f64 E F, .complex .f64 C D]) ∧ Below w.heap.size w w')
    (hg : ∀ w, Calls Tryz.prog 140 #[.agg #[.complex .f64 E F, .complex .f64 C D]] w fun e w' => e = .returned (.int .u32 g) ∧ Below w.heap.size w w')
    (ht : ∀ w, Calls Tryz.prog 34 #[.agg #[.complex .f64 E F, .complex .f64 C D]] w fun e w' => e = .returned (.agg #[.int .i64 x, .int .i64 y, .int .i64 u, .int .i64 v]) ∧ Below w.heap.size w w') (w : World) :
    Calls Tryz.prog 136 #[.agg #[.int .i64 a, .int .i64 b, .int .i64 c, .int .i64 d]] w fun e w' => e = .returned (.tuple #[.int .u32 g, .agg #[.int .i64 x, .int .i64 y, .int .i64 u, .int .i64 v]]) ∧ Below w.heap.size w w' := by
  have hst := store_complex
  go_enter Tryz.func136, Tryz.ntmps136
  go_wp2_with fail
  refine (hp _).mono ?_
  rintro e w1 ⟨rfl, hb1⟩
  obtain ⟨hc1, hf1⟩ := bcell hb1
  have z1 : w.heap.size + 1 < w1.heap.size := by have := hb1.size; simp at this; omega
  go_wp2_with fail
  refine (hn _).mono ?_
  rintro e w2 ⟨rfl, hb2⟩
  obtain ⟨hc2, hf2⟩ := bcell hb2
  have z2 : w.heap.size + 1 < w2.heap.size := by have := hb2.size; omega
  go_wp2_with fail
  generalize hW : w2.alloc (.cells #[.complex .f64 E F, .complex .f64 C D] 97) = W
  have hb : Below w.heap.size w W := hW ▸ (((((Below.refl _ w).alloc (Nat.le_refl _) _).alloc (by simp) _).trans (hb1.mono (by simp; omega))).trans (hb2.mono (by omega))).alloc (by omega) _
  have zB : w2.heap.size < W.heap.size := by rw [← hW]; simp
  have zR : w.heap.size + 1 < W.heap.size := by omega
  have k0 : W.cell? ⟨w2.heap.size, 0, none⟩ = some (.complex .f64 E F) := by rw [← hW]; simp [go_sem]
  have k1 : W.cell? ⟨w2.heap.size, 1, none⟩ = some (.complex .f64 C D) := by rw [← hW]; simp [go_sem]
  have r0 : W.cell? ⟨w.heap.size + 1, 0, none⟩ = some (.int .i64 0) := by rw [← hW]; simp [go_sem, hc1, hc2, z1, z2]
  have r1 : W.cell? ⟨w.heap.size + 1, 1, none⟩ = some (.int .i64 0) := by rw [← hW]; simp [go_sem, hc1, hc2, z1, z2]
  have r2 : W.cell? ⟨w.heap.size + 1, 2, none⟩ = some (.int .i64 0) := by rw [← hW]; simp [go_sem, hc1, hc2, z1, z2]
  have r3 : W.cell? ⟨w.heap.size + 1, 3, none⟩ = some (.int .i64 0) := by rw [← hW]; simp [go_sem, hc1, hc2, z1, z2]
  have f0 : ∀ o, W.frozen? ⟨w.heap.size + 1, o, none⟩ = false := by intro o; rw [← hW]; simp [go_sem, hf1, hf2, z1, z2]
  have hR : w.heap.size ≤ w.heap.size + 1 := by omega
  have hd : w.heap.size + 1 ≠ w2.heap.size := by omega
  clear hp hn hc1 hc2 hf1 hf2 hW hb1 hb2 z1
  generalize w2.heap.size = L at *
  generalize w.heap.size + 1 = R at *
  clear z2
  have hd' : L ≠ R := fun h => hd h.symm
  go_region_held3 (fun x => x.cell? ⟨L, 0, none⟩ = some (.complex .f64 E F) ∧ x.cell? ⟨L, 1, none⟩ = some (.complex .f64 C D) ∧ (∀ o, x.frozen? ⟨R, o, none⟩ = false) ∧ L < x.heap.size ∧ R < x.heap.size ∧ Below w.heap.size w x)
    (first
      | exact ⟨k0, k1, f0, zB, zR, hb.drew⟩
      | assumption
      | exact held_set (by assumption) hR hd)
    (first
      | (go_at_call 140; refine (hg _).mono ?_; rintro e w' ⟨rfl, hn⟩; have hZ := zeros_on (by first | exact ⟨r0, r1, r2, r3⟩ | assumption) (by assumption) hn; have hS := held_on (by assumption) (Nat.le_refl _) hn; clear hn)
      | (go_at_call 34; refine (ht _).mono ?_; rintro e w' ⟨rfl, hn⟩; have hZ := zeros_on (by first | exact ⟨r0, r1, r2, r3⟩ | assumption) (by assumption) hn; have hS := held_on (by assumption) (Nat.le_refl _) hn; clear hn))
  all_goals
    go_wp2
    refine bodyPost_ret (v := .tuple #[.int .u32 g, .agg #[.int .i64 x, .int .i64 y, .int .i64 u, .int .i64 v]]) (by simp [results, Tryz.results136, go_sem, hZ]) rfl ⟨rfl, ?_⟩
    exact held_below (L := L) (R := R) (c := .complex .f64 E F) (d := .complex .f64 C D) (by assumption)

end Go.Proofs.YtmegghgjllbamaaGreatDoor.Rng

/- Contracts of the program's walk along a row over whatever its inner functions answer. -/
namespace Go.Proofs.YtmegghgjllbamaaGreatDoor.Rng
open Go.RowKit
set_option linter.unusedVariables false
set_option maxRecDepth 100000

/-- In block L lies a place of two numbers, block R is four zeros, and nothing below n has turned since w. -/
structure Stands (L R n : Nat) (w : World) (c d : Value) (x : World) : Prop where
  l0 : x.cell? ⟨L, 0, none⟩ = some c
  l1 : x.cell? ⟨L, 1, none⟩ = some d
  r0 : x.cell? ⟨R, 0, none⟩ = some (.int .i64 0)
  r1 : x.cell? ⟨R, 1, none⟩ = some (.int .i64 0)
  r2 : x.cell? ⟨R, 2, none⟩ = some (.int .i64 0)
  r3 : x.cell? ⟨R, 3, none⟩ = some (.int .i64 0)
  fl : ∀ o, x.frozen? ⟨L, o, none⟩ = false
  fr : ∀ o, x.frozen? ⟨R, o, none⟩ = false
  zl : L < x.heap.size
  zr : R < x.heap.size
  ne : R ≠ L
  nl : n ≤ L
  nr : n ≤ R
  nw : n ≤ w.heap.size
  be : Below n w x

theorem Stands.on {L R n : Nat} {w x y : World} {c d : Value} (h : Stands L R n w c d x) (hb : Below x.heap.size x y) : Stands L R n w c d y := by
  obtain ⟨hc, hf⟩ := bcell hb
  have hz := hb.size
  have hz2 := h.be.size
  have hz3 := h.nw
  have zl := h.zl
  have zr := h.zr
  exact ⟨by rw [hc _ _ zl, h.l0], by rw [hc _ _ zl, h.l1], by rw [hc _ _ zr, h.r0], by rw [hc _ _ zr, h.r1], by rw [hc _ _ zr, h.r2], by rw [hc _ _ zr, h.r3],
    fun o => by rw [hf _ _ zl, h.fl], fun o => by rw [hf _ _ zr, h.fr], by omega, by omega, h.ne, h.nl, h.nr, h.nw, h.be.trans (hb.mono (by omega))⟩

theorem Stands.put {L R n : Nat} {w x : World} {c d : Value} (h : Stands L R n w c d x) (c' d' : Value) : Stands L R n w c' d' ((x.setCell ⟨L, 0, none⟩ c').setCell ⟨L, 1, none⟩ d') := by
  have hn : L ≠ R := fun e => h.ne e.symm
  refine ⟨?_, ?_, ?_, ?_, ?_, ?_, ?_, ?_, ?_, ?_, h.ne, h.nl, h.nr, h.nw, (h.be.setCell h.nl _).setCell h.nl _⟩
  · simp [go_sem, h.l0]
  · simp [go_sem, h.l1]
  · simp [World.cell?_setCell_far, hn, h.r0]
  · simp [World.cell?_setCell_far, hn, h.r1]
  · simp [World.cell?_setCell_far, hn, h.r2]
  · simp [World.cell?_setCell_far, hn, h.r3]
  · intro o; simp [h.fl]
  · intro o; simp [h.fr]
  · simpa using h.zl
  · simpa using h.zr

end Go.Proofs.YtmegghgjllbamaaGreatDoor.Rng

/- The plain arithmetic of a row of words: parts modulo 65521, the next place, and where a row stands. -/
namespace Go.Proofs.YtmegghgjllbamaaGreatDoor.Rng
namespace Rng

/-- The real part of the next place. -/
def nre (x y u : Int) : Int := (x * x - y * y + u) % 65521

/-- The imaginary part of the next place. -/
def nim (x y v : Int) : Int := (2 * (x * y) + v) % 65521

/-- Where a row stands so many words later. -/
def row (x y u v : Int) : Nat → Int × Int
  | 0 => (x, y)
  | k + 1 => (nre (row x y u v k).1 (row x y u v k).2 u, nim (row x y u v k).1 (row x y u v k).2 v)

theorem md_in (n : Int) : 0 ≤ n % 65521 ∧ n % 65521 ≤ 65520 := by omega

theorem nre_in (x y u : Int) : 0 ≤ nre x y u ∧ nre x y u ≤ 65520 := md_in _

theorem nim_in (x y v : Int) : 0 ≤ nim x y v ∧ nim x y v ≤ 65520 := md_in _

theorem row_in (x y u v : Int) (hx : 0 ≤ x ∧ x ≤ 65520) (hy : 0 ≤ y ∧ y ≤ 65520) (k : Nat) :
    (0 ≤ (row x y u v k).1 ∧ (row x y u v k).1 ≤ 65520) ∧ (0 ≤ (row x y u v k).2 ∧ (row x y u v k).2 ≤ 65520) := by
  cases k with
  | zero => exact ⟨hx, hy⟩
  | succ k => exact ⟨nre_in .., nim_in ..⟩

theorem row_add (x y u v : Int) (j k : Nat) : row x y u v (j + k) = row (row x y u v j).1 (row x y u v j).2 u v k := by
  induction k with
  | zero => rfl
  | succ k ih =>
    show (nre (row x y u v (j + k)).1 (row x y u v (j + k)).2 u, nim (row x y u v (j + k)).1 (row x y u v (j + k)).2 v) = _
    rw [ih]; rfl

theorem md_id (n : Int) (h : 0 ≤ n ∧ n ≤ 65520) : n % 65521 = n := by omega

theorem sq_in (x y : Int) (hx : 0 ≤ x ∧ x ≤ 65520) (hy : 0 ≤ y ∧ y ≤ 65520) : 0 ≤ x * y ∧ x * y ≤ 4292870400 :=
  ⟨Int.mul_nonneg hx.1 hy.1, Int.mul_le_mul hx.2 hy.2 hy.1 (by omega)⟩

end Rng

end Go.Proofs.YtmegghgjllbamaaGreatDoor.Rng

/- What the program's four calls answer, over whole numbers: for every place and word. -/
namespace Go.Proofs.YtmegghgjllbamaaGreatDoor.Rng
open Go.RowKit
set_option linter.unusedVariables false
set_option maxRecDepth 100000

theorem place_any (a b c d : Int) (w : World) :
    Calls Tryz.prog 106 #[.agg #[.int .i64 a, .int .i64 b, .int .i64 c, .int .i64 d]] w fun e w' =>
      e = .returned (.agg #[.complex .f64 (num (a % 65521)) (num (b % 65521)), .complex .f64 (num (c % 65521)) (num (d % 65521))]) ∧ Below w.heap.size w w' :=
  placeOf_raw (fun n => num (n % 65521)) number_any a b c d w

theorem pnext_any (x y u v : Int) (hx : 0 ≤ x ∧ x ≤ 65520) (hy : 0 ≤ y ∧ y ≤ 65520) (hu : 0 ≤ u ∧ u ≤ 65520) (hv : 0 ≤ v ∧ v ≤ 65520) (w : World) :
    Calls Tryz.prog 139 #[.agg #[.complex .f64 (num x) (num y), .complex .f64 (num u) (num v)]] w fun e w' =>
      e = .returned (.agg #[.complex .f64 (num (Rng.nre x y u)) (num (Rng.nim x y v)), .complex .f64 (num u) (num v)]) ∧ Below w.heap.size w w' := by
  obtain ⟨m1, m2, hm, i1, i2⟩ := Whole.sq_is (num_is x hx.1 hx.2) (num_is y hy.1 hy.2) hx hy
  have h1 := Rng.sq_in x x hx hx
  have h2 := Rng.sq_in y y hy hy
  have h3 := Rng.sq_in x y hx hy
  obtain ⟨s1, s2, hs, j1, j2⟩ := Whole.plus_is i1 i2 (num_is u hu.1 hu.2) (num_is v hv.1 hv.2) (by omega) (by omega)
  exact next_raw hm hs (fun w => reduced_any j1 j2 (by omega) (by omega) (by omega) (by omega) w) w

theorem pstir_any (x y u v n : Int) (hx : 0 ≤ x ∧ x ≤ 65520) (hy : 0 ≤ y ∧ y ≤ 65520) (hn : 0 ≤ n ∧ n ≤ 4294967295) (w : World) :
    Calls Tryz.prog 107 #[.agg #[.complex .f64 (num x) (num y), .complex .f64 (num u) (num v)], .int .u32 n] w fun e w' =>
      e = .returned (.agg #[.complex .f64 (num ((x + n % 65536 % 65521) % 65521)) (num ((y + n / 65536 % 65521) % 65521)), .complex .f64 (num u) (num v)]) ∧ Below w.heap.size w w' := by
  obtain ⟨s1, s2, hs, j1, j2⟩ := Whole.plus_is (num_is x hx.1 hx.2) (num_is y hy.1 hy.2) (num_is (n % 65536 % 65521) (by omega) (by omega)) (num_is (n / 65536 % 65521) (by omega) (by omega)) (by omega) (by omega)
  exact stirred_raw (fun w => halves_any n hn.1 hn.2 w) hs (fun w => reduced_any j1 j2 (by omega) (by omega) (by omega) (by omega) w) w

theorem seed_any (n : Int) (hn : 0 ≤ n ∧ n ≤ 4294967295) (w : World) :
    Calls Tryz.prog 13 #[.int .u32 n] w fun e w' =>
      e = .returned (.agg #[.int .i64 (n % 65536 % 65521), .int .i64 (n / 65536 % 65521), .int .i64 12345, .int .i64 6789]) ∧ Below w.heap.size w w' :=
  seed_raw (fun w => halves_any n hn.1 hn.2 w) (fun w => number_any 12345 6789 w)
    (fun w => told_any _ _ 12345 6789 (by omega) (by omega) (by omega) (by omega) (by omega) (by omega) (by omega) (by omega) w) w

theorem next_any (a b c d : Int) (w : World) :
    Calls Tryz.prog 136 #[.agg #[.int .i64 a, .int .i64 b, .int .i64 c, .int .i64 d]] w fun e w' =>
      e = .returned (.tuple #[.int .u32 (Rng.nre (a % 65521) (b % 65521) (c % 65521) + 65536 * Rng.nim (a % 65521) (b % 65521) (d % 65521)),
        .agg #[.int .i64 (Rng.nre (a % 65521) (b % 65521) (c % 65521)), .int .i64 (Rng.nim (a % 65521) (b % 65521) (d % 65521)), .int .i64 (c % 65521), .int .i64 (d % 65521)]]) ∧ Below w.heap.size w w' := by
  have h1 := Rng.nre_in (a % 65521) (b % 65521) (c % 65521)
  have h2 := Rng.nim_in (a % 65521) (b % 65521) (d % 65521)
  have h3 := Rng.md_in c
  have h4 := Rng.md_in d
  exact next_over (fun w => place_any a b c d w) (fun w => pnext_any _ _ _ _ (Rng.md_in a) (Rng.md_in b) h3 h4 w)
    (fun w => word_any _ _ _ _ h1.1 h1.2 h2.1 h2.2 w) (fun w => told_any _ _ _ _ h1.1 h1.2 h2.1 h2.2 h3.1 h3.2 h4.1 h4.2 w) w

theorem stir_any (a b c d n : Int) (hn : 0 ≤ n ∧ n ≤ 4294967295) (w : World) :
    Calls Tryz.prog 69 #[.agg #[.int .i64 a, .int .i64 b, .int .i64 c, .int .i64 d], .int .u32 n] w fun e w' =>
      e = .returned (.agg #[.int .i64 ((a % 65521 + n % 65536 % 65521) % 65521), .int .i64 ((b % 65521 + n / 65536 % 65521) % 65521), .int .i64 (c % 65521), .int .i64 (d % 65521)]) ∧ Below w.heap.size w w' := by
  have h1 := Rng.md_in (a % 65521 + n % 65536 % 65521)
  have h2 := Rng.md_in (b % 65521 + n / 65536 % 65521)
  have h3 := Rng.md_in c
  have h4 := Rng.md_in d
  exact stir_raw (fun w => place_any a b c d w) (fun w => pstir_any _ _ _ _ n (Rng.md_in a) (Rng.md_in b) hn w)
    (fun w => told_any _ _ _ _ h1.1 h1.2 h2.1 h2.2 h3.1 h3.2 h4.1 h4.2 w) w

end Go.Proofs.YtmegghgjllbamaaGreatDoor.Rng

/- Contracts of the document's answers of layer 3: a number modulo 65521, and a place with its parts modulo 65521. -/
namespace Go.Proofs.YtmegghgjllbamaaGreatDoor.Rng
open Go.RowKit
set_option linter.unusedVariables false
set_option maxRecDepth 100000

theorem tmod_neg (n : Int) (h : n.tmod 65521 < 0) : n.tmod 65521 + 65521 = n % 65521 := by
  have e := part_eq n
  rw [Int.tmod_eq_emod_of_nonneg (by
    have := Int.tmod_lt_of_pos (-n) (b := 65521) (by decide)
    rw [Int.neg_tmod] at this; omega)] at e
  have := Int.tmod_lt_of_pos (-n) (b := 65521) (by decide)
  rw [Int.neg_tmod] at this
  omega

theorem tmod_pos (n : Int) (h : ¬ n.tmod 65521 < 0) : n.tmod 65521 = n % 65521 := by
  have e := part_eq n
  rw [Int.tmod_eq_emod_of_nonneg (by omega)] at e
  have := Int.tmod_lt_of_pos n (b := 65521) (by decide)
  omega

end Go.Proofs.YtmegghgjllbamaaGreatDoor.Rng

/- Contracts of the document's four calls of layer 3. -/
namespace Go.Proofs.YtmegghgjllbamaaGreatDoor.Rng
open Go.RowKit
set_option linter.unusedVariables false
set_option maxRecDepth 100000

end Go.Proofs.YtmegghgjllbamaaGreatDoor.Rng

/- The contract of the document's walk along a row. -/
namespace Go.Proofs.YtmegghgjllbamaaGreatDoor.Rng
open Go.RowKit
set_option linter.unusedVariables false
set_option maxRecDepth 100000

/-- In block L lies a place of four numbers, block R is four zeros, and nothing below n has turned since w. -/
structure Stands4 (L R n : Nat) (w : World) (p q u v : Int) (x : World) : Prop where
  l0 : x.cell? ⟨L, 0, none⟩ = some (.int .i64 p)
  l1 : x.cell? ⟨L, 1, none⟩ = some (.int .i64 q)
  l2 : x.cell? ⟨L, 2, none⟩ = some (.int .i64 u)
  l3 : x.cell? ⟨L, 3, none⟩ = some (.int .i64 v)
  r0 : x.cell? ⟨R, 0, none⟩ = some (.int .i64 0)
  r1 : x.cell? ⟨R, 1, none⟩ = some (.int .i64 0)
  r2 : x.cell? ⟨R, 2, none⟩ = some (.int .i64 0)
  r3 : x.cell? ⟨R, 3, none⟩ = some (.int .i64 0)
  fl : ∀ o, x.frozen? ⟨L, o, none⟩ = false
  fr : ∀ o, x.frozen? ⟨R, o, none⟩ = false
  zl : L < x.heap.size
  zr : R < x.heap.size
  ne : R ≠ L
  nl : n ≤ L
  nr : n ≤ R
  nw : n ≤ w.heap.size
  be : Below n w x

theorem Stands4.on {L R n : Nat} {w x y : World} {p q u v : Int} (h : Stands4 L R n w p q u v x) (hb : Below x.heap.size x y) : Stands4 L R n w p q u v y := by
  obtain ⟨hc, hf⟩ := bcell hb
  have hz := hb.size
  have hz2 := h.be.size
  have hz3 := h.nw
  have zl := h.zl
  have zr := h.zr
  exact ⟨by rw [hc _ _ zl, h.l0], by rw [hc _ _ zl, h.l1], by rw [hc _ _ zl, h.l2], by rw [hc _ _ zl, h.l3], by rw [hc _ _ zr, h.r0], by rw [hc _ _ zr, h.r1], by rw [hc _ _ zr, h.r2], by rw [hc _ _ zr, h.r3],
    fun o => by rw [hf _ _ zl, h.fl], fun o => by rw [hf _ _ zr, h.fr], by omega, by omega, h.ne, h.nl, h.nr, h.nw, h.be.trans (hb.mono (by omega))⟩

theorem Stands4.put {L R n : Nat} {w x : World} {p q u v : Int} (h : Stands4 L R n w p q u v x) (p' q' u' v' : Int) :
    Stands4 L R n w p' q' u' v' ((((x.setCell ⟨L, 0, none⟩ (.int .i64 p')).setCell ⟨L, 1, none⟩ (.int .i64 q')).setCell ⟨L, 2, none⟩ (.int .i64 u')).setCell ⟨L, 3, none⟩ (.int .i64 v')) := by
  have hn : L ≠ R := fun e => h.ne e.symm
  refine ⟨?_, ?_, ?_, ?_, ?_, ?_, ?_, ?_, ?_, ?_, ?_, ?_, h.ne, h.nl, h.nr, h.nw, set4 h.be h.nl⟩
  · simp [go_sem, h.l0]
  · simp [go_sem, h.l1]
  · simp [go_sem, h.l2]
  · simp [go_sem, h.l3]
  · simp [World.cell?_setCell_far, hn, h.r0]
  · simp [World.cell?_setCell_far, hn, h.r1]
  · simp [World.cell?_setCell_far, hn, h.r2]
  · simp [World.cell?_setCell_far, hn, h.r3]
  · intro o; simp [h.fl]
  · intro o; simp [h.fr]
  · simpa using h.zl
  · simpa using h.zr

end Go.Proofs.YtmegghgjllbamaaGreatDoor.Rng
