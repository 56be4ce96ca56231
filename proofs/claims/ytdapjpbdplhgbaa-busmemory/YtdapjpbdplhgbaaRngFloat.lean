/- Doubles that are whole numbers below 2^53: sums, differences and products of them are exact, and so are the ways from and to integers. -/
import Derived.WalkLawsBesides
set_option linter.unusedVariables false
set_option maxRecDepth 100000
namespace Go.Proofs.Ytdapjpbdplhgbaa.Rng
namespace Whole
open Go Ieee

/-- The double x is the whole number n. -/
def Is (x : Nat) (n : Int) : Prop := ∃ (s : Bool) (k : Nat), double.read x = .number s (n.natAbs * 2 ^ k) (-(k : Int)) ∧ (n ≠ 0 → s = decide (n < 0))

theorem cut0 (s : Bool) (a : Nat) : Toward.even.cut s a 0 = a := by
  simp [Toward.cut, Nat.mod_one]

theorem log2_mul (a k : Nat) (h : a ≠ 0) : (a * 2 ^ k).log2 = a.log2 + k := by
  rw [← Nat.shiftLeft_eq]
  induction k with
  | zero => simp
  | succ k ih =>
    have hk : a <<< k ≠ 0 := by
      rw [Nat.shiftLeft_eq]; exact Nat.mul_ne_zero h (by have := Nat.two_pow_pos k; omega)
    rw [Nat.shiftLeft_succ, Nat.log2_two_mul hk, ih]
    omega

theorem cutK (w : Toward) (hw : w = .even ∨ w = .zero) (s : Bool) (a d k : Nat) (h : a ≠ 0) (hd : d ≤ k) : w.cut s (a * 2 ^ k) d = a * 2 ^ (k - d) := by
  have hm : min d ((a * 2 ^ k).log2 + 2) = d := by rw [log2_mul _ _ h]; omega
  have hk : a * 2 ^ k = a * 2 ^ (k - d) * 2 ^ d := by
    rw [Nat.mul_assoc, ← Nat.pow_add]; congr 2; omega
  have hp : 0 < 2 ^ d := Nat.two_pow_pos d
  unfold Toward.cut
  rw [hm, Nat.shiftLeft_eq, Nat.one_mul]
  have h1 : a * 2 ^ k / 2 ^ d = a * 2 ^ (k - d) := by rw [hk, Nat.mul_div_cancel _ hp]
  have h2 : a * 2 ^ k % 2 ^ d = 0 := by rw [hk, Nat.mul_mod_left]
  rcases hw with rfl | rfl
  · have h3 : ¬ (2 ^ d = 0) := by omega
    simp only [h1, h2]
    simp
  · simp only [h1]
    simp

theorem sw : double.signWeight = 9223372036854775808 := by simp [double, Format.signWeight]

theorem bn : double.binade = 4503599627370496 := by simp [double, Format.binade]

theorem ir : double.infRung = 9218868437227405312 := by simp [double, Format.infRung, Format.binade]

theorem lp : double.leastPlace = -1074 := by simp [double, Format.leastPlace]

theorem fb : double.fractionBits = 52 := rfl

theorem word_parts (s : Bool) (r : Nat) (h : r < 9223372036854775808) : (double.word s r / 9223372036854775808 % 2 == 1) = s ∧ double.word s r % 9223372036854775808 = r := by
  cases s
  · have e : double.word false r = r := rfl
    rw [e]
    have e1 : r / 9223372036854775808 % 2 = 0 := by omega
    rw [e1]; exact ⟨rfl, by omega⟩
  · have e : double.word true r = 9223372036854775808 + r := by
      show double.signWeight + r = _
      rw [sw]
    rw [e]
    have e1 : (9223372036854775808 + r) / 9223372036854775808 % 2 = 1 := by omega
    rw [e1]; exact ⟨rfl, by omega⟩

theorem read_word (s : Bool) (r : Nat) (h1 : 4503599627370496 ≤ r) (h2 : r < 9218868437227405312) : double.read (double.word s r) = .number s (4503599627370496 + r % 4503599627370496) (-1074 + ((r / 4503599627370496 - 1 : Nat) : Int)) := by
  obtain ⟨p1, p2⟩ := word_parts s r (by omega)
  unfold Format.read
  rw [sw, bn, ir, lp]
  simp only [p1, p2]
  rw [if_neg (by omega), if_pos h2]

theorem read_nearest (s : Bool) (a k : Nat) (h : a ≠ 0) (hb : a < 2 ^ 53) : double.read (double.nearest s (a * 2 ^ k) (-(k : Int))) = .number s (a * 2 ^ (52 - a.log2)) (-((52 - a.log2 : Nat) : Int)) := by
  have hL : a.log2 ≤ 52 := by
    have := (Nat.log2_lt h (k := 53)).2 hb; omega
  have lo : 2 ^ a.log2 ≤ a := Nat.log2_self_le h
  have hi : a < 2 ^ (a.log2 + 1) := Nat.lt_log2_self
  have hlog := log2_mul a k h
  have hm : a * 2 ^ k ≠ 0 := Nat.mul_ne_zero h (by have := Nat.two_pow_pos k; omega)
  generalize hLe : a.log2 = L at *
  have flo : 2 ^ 52 ≤ a * 2 ^ (52 - L) := by
    have e := Nat.pow_add 2 L (52 - L)
    have e' : L + (52 - L) = 52 := by omega
    rw [e'] at e
    rw [e]; exact Nat.mul_le_mul_right _ lo
  have fhi : a * 2 ^ (52 - L) < 2 ^ 53 := by
    have e := Nat.pow_add 2 (L + 1) (52 - L)
    have e' : L + 1 + (52 - L) = 53 := by omega
    rw [e'] at e
    rw [e]; exact Nat.mul_lt_mul_of_pos_right hi (Nat.two_pow_pos _)
  have kept : Toward.even.cut s ((a * 2 ^ k) <<< ((-(k : Int)) - ((L : Int) - 52)).toNat) (((L : Int) - 52) - (-(k : Int))).toNat = a * 2 ^ (52 - L) := by
    by_cases c : k ≤ 52 - L
    · have e1 : ((-(k : Int)) - ((L : Int) - 52)).toNat = 52 - L - k := by omega
      have e2 : (((L : Int) - 52) - (-(k : Int))).toNat = 0 := by omega
      have e3 : k + (52 - L - k) = 52 - L := by omega
      rw [e1, e2, cut0, Nat.shiftLeft_eq, Nat.mul_assoc, ← Nat.pow_add, e3]
    · have e1 : ((-(k : Int)) - ((L : Int) - 52)).toNat = 0 := by omega
      have e2 : (((L : Int) - 52) - (-(k : Int))).toNat = k - (52 - L) := by omega
      have e3 : k - (k - (52 - L)) = 52 - L := by omega
      rw [e1, e2, Nat.shiftLeft_zero, cutK _ (Or.inl rfl) _ _ _ _ h (by omega), e3]
  have lst : max ((-(k : Int)) + ((L + k : Nat) : Int) - (double.fractionBits : Int)) double.leastPlace = (L : Int) - 52 := by
    rw [fb, lp]; omega
  unfold Format.nearest
  rw [if_neg hm, hlog]
  simp only [lst, kept]
  generalize a * 2 ^ (52 - L) = f at *
  have e3 : ((L : Int) - 52 - double.leastPlace).toNat = L + 1022 := by
    rw [lp]; omega
  have flo' : 4503599627370496 ≤ f := flo
  have fhi' : f < 9007199254740992 := fhi
  clear flo fhi kept lst
  have e4 : min ((L + 1022) * double.binade + f) double.infRung = (L + 1022) * 4503599627370496 + f := by
    rw [bn, ir]; omega
  rw [e3, e4, read_word s _ (by omega) (by omega)]
  have m1 : 4503599627370496 + ((L + 1022) * 4503599627370496 + f) % 4503599627370496 = f := by omega
  have m2 : ((L + 1022) * 4503599627370496 + f) / 4503599627370496 - 1 = L + 1022 := by omega
  have m3 : (-1074 : Int) + ((L + 1022 : Nat) : Int) = -((52 - L : Nat) : Int) := by omega
  rw [m1, m2, m3]

theorem read_zero (s : Bool) (p : Int) : double.read (double.nearest s 0 p) = .number s 0 (-1074) := by
  obtain ⟨p1, p2⟩ := word_parts s 0 (by omega)
  unfold Format.nearest
  rw [if_pos rfl]
  unfold Format.read
  rw [sw, bn, ir, lp]
  simp only [p1, p2]
  rw [if_pos (by omega)]

theorem is_nearest (s : Bool) (n : Int) (k : Nat) (hs : n ≠ 0 → s = decide (n < 0)) (hb : n.natAbs < 2 ^ 53) : Is (double.nearest s (n.natAbs * 2 ^ k) (-(k : Int))) n := by
  by_cases h : n = 0
  · subst h
    have e : ∃ k : Nat, (k : Int) = 1074 := ⟨1074, rfl⟩
    obtain ⟨j, hj⟩ := e
    refine ⟨s, j, ?_, hs⟩
    rw [hj, show Int.natAbs 0 = 0 from rfl, Nat.zero_mul, Nat.zero_mul, read_zero]
  · exact ⟨s, _, read_nearest s n.natAbs k (by omega) hb, hs⟩

theorem of_int (n : Int) (hb : n.natAbs < 2 ^ 53) : Is (floatOfInt .f64 n) n := by
  have := is_nearest (decide (n < 0)) n 0 (fun _ => rfl) hb
  simpa [floatOfInt, FloatKind.nearest, FloatKind.encode, FloatKind.format, Format.write] using this

theorem mul_is {x y : Nat} {a b : Int} (hx : Is x a) (hy : Is y b) (hb : (a * b).natAbs < 2 ^ 53) : ∃ r, floatBits .mul .f64 x y = some r ∧ Is r (a * b) := by
  obtain ⟨s, i, rx, sx⟩ := hx
  obtain ⟨t, j, ry, sy⟩ := hy
  have e : a.natAbs * 2 ^ i * (b.natAbs * 2 ^ j) = (a * b).natAbs * 2 ^ (i + j) := by
    rw [Int.natAbs_mul, Nat.pow_add, Nat.mul_mul_mul_comm]
  have e2 : (-(i : Int)) + (-(j : Int)) = -((i + j : Nat) : Int) := by omega
  refine ⟨double.nearest (s ^^ t) ((a * b).natAbs * 2 ^ (i + j)) (-((i + j : Nat) : Int)), ?_, is_nearest _ _ _ ?_ hb⟩
  · simp [floatBits, FloatKind.format, Format.mul, rx, ry, Datum.product, Format.write, e, e2]
  · intro h
    have ha : a ≠ 0 := by rintro rfl; simp at h
    have hb' : b ≠ 0 := by rintro rfl; simp at h
    rw [sx ha, sy hb']
    rcases Int.lt_trichotomy a 0 with h1 | h1 | h1
    · rcases Int.lt_trichotomy b 0 with h2 | h2 | h2
      · have := Int.mul_pos_of_neg_of_neg h1 h2
        simp [h1, h2]; omega
      · omega
      · have := Int.mul_neg_of_neg_of_pos h1 h2
        have h3 : ¬ b < 0 := by omega
        simp [h1, h3, this]
    · omega
    · rcases Int.lt_trichotomy b 0 with h2 | h2 | h2
      · have := Int.mul_neg_of_pos_of_neg h1 h2
        have h3 : ¬ a < 0 := by omega
        simp [h2, h3, this]
      · omega
      · have := Int.mul_pos h1 h2
        have h3 : ¬ a < 0 := by omega
        have h4 : ¬ b < 0 := by omega
        have h5 : ¬ a * b < 0 := by omega
        simp [h3, h4, h5]

theorem signed_is (s : Bool) (a : Int) (i B : Nat) (hs : a ≠ 0 → s = decide (a < 0)) (h : i ≤ B) : signed s (a.natAbs * 2 ^ i) (B - i) = a * 2 ^ B := by
  have e : a.natAbs * 2 ^ i * 2 ^ (B - i) = a.natAbs * 2 ^ B := by
    rw [Nat.mul_assoc, ← Nat.pow_add]; congr 2; omega
  unfold signed
  rw [Nat.shiftLeft_eq, e]
  by_cases ha : a = 0
  · subst ha; simp
  · rw [hs ha]
    have p : ((2 ^ B : Nat) : Int) = (2 : Int) ^ B := by simp
    by_cases hn : a < 0
    · have : (a.natAbs : Int) = -a := by omega
      simp only [hn, decide_true, if_true, Int.natCast_mul, this, p]
      rw [Int.neg_mul, Int.neg_neg]
    · have : (a.natAbs : Int) = a := by omega
      simp [hn, Int.natCast_mul, this, p]

theorem sum_is (s t : Bool) (i j : Nat) (a b : Int) (hs : a ≠ 0 → s = decide (a < 0)) (ht : b ≠ 0 → t = decide (b < 0)) (hb : (a + b).natAbs < 2 ^ 53) :
    ∃ d, Datum.sum (.number s (a.natAbs * 2 ^ i) (-(i : Int))) (.number t (b.natAbs * 2 ^ j) (-(j : Int))) = some d ∧ Is (double.write d) (a + b) := by
  have hB : ∃ B : Nat, B = max i j := ⟨_, rfl⟩
  obtain ⟨B, hB⟩ := hB
  have e0 : min (-(i : Int)) (-(j : Int)) = -(B : Int) := by omega
  have e1 : (-(i : Int) - -(B : Int)).toNat = B - i := by omega
  have e2 : (-(j : Int) - -(B : Int)).toNat = B - j := by omega
  refine ⟨_, rfl, ?_⟩
  simp only [e0, e1, e2, signed_is s a i B hs (by omega), signed_is t b j B ht (by omega), ← Int.add_mul]
  have p : (0 : Int) < 2 ^ B := by exact Int.pow_pos (by omega)
  have na : ((a + b) * 2 ^ B).natAbs = (a + b).natAbs * 2 ^ B := by rw [Int.natAbs_mul, Int.natAbs_pow]; rfl
  rw [na]
  show Is (double.nearest _ _ _) _
  refine is_nearest _ _ _ ?_ hb
  intro h
  have h' : ¬ (a + b) * 2 ^ B = 0 := by
    intro c; rcases Int.mul_eq_zero.1 c with c | c <;> omega
  rw [if_neg h']
  rcases Int.lt_trichotomy (a + b) 0 with h1 | h1 | h1
  · have := Int.mul_neg_of_neg_of_pos h1 p
    simp [h1, this]
  · omega
  · have := Int.mul_pos h1 p
    have h3 : ¬ a + b < 0 := by omega
    have h4 : ¬ (a + b) * 2 ^ B < 0 := by omega
    simp only [h3, h4]

theorem add_is {x y : Nat} {a b : Int} (hx : Is x a) (hy : Is y b) (hb : (a + b).natAbs < 2 ^ 53) : ∃ r, floatBits .add .f64 x y = some r ∧ Is r (a + b) := by
  obtain ⟨s, i, rx, sx⟩ := hx
  obtain ⟨t, j, ry, sy⟩ := hy
  obtain ⟨d, h1, h2⟩ := sum_is s t i j a b sx sy hb
  exact ⟨double.write d, by simp [floatBits, FloatKind.format, Format.add, rx, ry, h1], h2⟩

theorem sub_is {x y : Nat} {a b : Int} (hx : Is x a) (hy : Is y b) (hb : (a - b).natAbs < 2 ^ 53) : ∃ r, floatBits .sub .f64 x y = some r ∧ Is r (a - b) := by
  obtain ⟨s, i, rx, sx⟩ := hx
  obtain ⟨t, j, ry, sy⟩ := hy
  have ht : -b ≠ 0 → (!t) = decide (-b < 0) := by
    intro h
    rw [sy (by omega)]
    by_cases c : b < 0
    · have : ¬ -b < 0 := by omega
      simp [c]; omega
    · have : -b < 0 := by omega
      simp [c]; omega
  obtain ⟨d, h1, h2⟩ := sum_is s (!t) i j a (-b) sx ht (by rw [← Int.sub_eq_add_neg]; exact hb)
  rw [Int.natAbs_neg] at h1
  rw [← Int.sub_eq_add_neg] at h2
  exact ⟨double.write d, by simp [floatBits, FloatKind.format, Format.sub, rx, ry, Datum.opposite, h1], h2⟩

theorem to_int {x : Nat} {n : Int} (hx : Is x n) (k : IntKind) (h1 : k.min ≤ n) (h2 : n ≤ k.max) : floatToIntVal .f64 x k = some n := by
  obtain ⟨s, i, rx, sx⟩ := hx
  have e1 : (-(i : Int)).toNat = 0 := by omega
  have e2 : (- -(i : Int)).toNat = i := by omega
  have c : Toward.zero.cut s (n.natAbs * 2 ^ i) i = n.natAbs := by
    by_cases h : n = 0
    · subst h; simp [Toward.cut]
    · rw [cutK _ (Or.inr rfl) _ _ _ _ (by omega) (Nat.le_refl _)]; simp
  have sg : signed s n.natAbs 0 = n := by
    have := signed_is s n 0 0 sx (Nat.le_refl _)
    simpa using this
  have t : (double.read x).toInt .zero = some n := by
    rw [rx]
    simp only [Datum.toInt, Datum.integral, e1, e2, Nat.shiftLeft_zero, c, sg]
  simp [floatToIntVal, FloatKind.decode, FloatKind.format, t, h1, h2]

/-- The square of a complex number with whole parts. -/
theorem sq_is {a b : Nat} {x y : Int} (ha : Is a x) (hb : Is b y) (hx : 0 ≤ x ∧ x ≤ 65520) (hy : 0 ≤ y ∧ y ≤ 65520) :
    ∃ re im, cMulBits a b a b = some (re, im) ∧ Is re (x * x - y * y) ∧ Is im (2 * (x * y)) := by
  have h1 : 0 ≤ x * x ∧ x * x ≤ 65520 * 65520 := ⟨Int.mul_nonneg hx.1 hx.1, Int.mul_le_mul hx.2 hx.2 hx.1 (by omega)⟩
  have h2 : 0 ≤ y * y ∧ y * y ≤ 65520 * 65520 := ⟨Int.mul_nonneg hy.1 hy.1, Int.mul_le_mul hy.2 hy.2 hy.1 (by omega)⟩
  have h3 : 0 ≤ x * y ∧ x * y ≤ 65520 * 65520 := ⟨Int.mul_nonneg hx.1 hy.1, Int.mul_le_mul hx.2 hy.2 hy.1 (by omega)⟩
  have h4 : y * x = x * y := Int.mul_comm ..
  obtain ⟨ac, e1, i1⟩ := mul_is ha ha (by omega)
  obtain ⟨bd, e2, i2⟩ := mul_is hb hb (by omega)
  obtain ⟨re, e3, i3⟩ := sub_is i1 i2 (by omega)
  obtain ⟨ad, e4, i4⟩ := mul_is ha hb (by omega)
  obtain ⟨bc, e5, i5⟩ := mul_is hb ha (by omega)
  obtain ⟨im, e6, i6⟩ := add_is i4 i5 (by omega)
  refine ⟨re, im, ?_, i3, ?_⟩
  · simp [cMulBits, e1, e2, e3, e4, e5, e6]
  · rw [h4, ← Int.two_mul] at i6; exact i6

theorem plus_is {a b c d : Nat} {x y u v : Int} (ha : Is a x) (hb : Is b y) (hc : Is c u) (hd : Is d v) (h1 : (x + u).natAbs < 2 ^ 53) (h2 : (y + v).natAbs < 2 ^ 53) :
    ∃ re im, cSumBits .add .f64 a b c d = some (re, im) ∧ Is re (x + u) ∧ Is im (y + v) := by
  obtain ⟨re, e1, i1⟩ := add_is ha hc h1
  obtain ⟨im, e2, i2⟩ := add_is hb hd h2
  exact ⟨re, im, by simp [cSumBits, e1, e2], i1, i2⟩

end Whole
end Go.Proofs.Ytdapjpbdplhgbaa.Rng
