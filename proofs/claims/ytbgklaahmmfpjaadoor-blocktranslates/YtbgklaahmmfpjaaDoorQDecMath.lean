/- The plain arithmetic of an instruction's word, field by field, form by form. -/
import Derived.Test.YtbgklaahmmfpjaaDoorQDeAll
set_option linter.unusedVariables false
set_option maxRecDepth 100000
set_option linter.unusedSimpArgs false
namespace Go.Proofs.YtbgklaahmmfpjaaDoor.De
open Go

theorem fand (x y k : Nat) : (x &&& y) / 2 ^ k % 32 = (x / 2 ^ k % 32) &&& (y / 2 ^ k % 32) := by
  have h := Nat.shiftRight_and_distrib (a := x) (b := y) (i := k)
  simp only [Nat.shiftRight_eq_div_pow] at h
  rw [h, show (32 : Nat) = 2 ^ 5 from rfl, Nat.and_mod_two_pow]

theorem for_ (x y k : Nat) : (x ||| y) / 2 ^ k % 32 = (x / 2 ^ k % 32) ||| (y / 2 ^ k % 32) := by
  have h := Nat.shiftRight_or_distrib (a := x) (b := y) (i := k)
  simp only [Nat.shiftRight_eq_div_pow] at h
  rw [h, show (32 : Nat) = 2 ^ 5 from rfl, Nat.or_mod_two_pow]

theorem fand6 (x y : Nat) : (x &&& y) % 64 = (x % 64) &&& (y % 64) := by rw [show (64 : Nat) = 2 ^ 6 from rfl, Nat.and_mod_two_pow]

theorem for6 (x y : Nat) : (x ||| y) % 64 = (x % 64) ||| (y % 64) := by rw [show (64 : Nat) = 2 ^ 6 from rfl, Nat.or_mod_two_pow]

theorem low_nat (n : Nat) (h : n < 32) : Dec.low (n : Int) = n := by unfold Dec.low; omega

theorem sh21_21 : ∀ n < 32, n * 2097152 / 2 ^ 21 % 32 = n := by decide +kernel
theorem sh21_16 : ∀ n < 32, n * 2097152 / 2 ^ 16 % 32 = 0 := by decide +kernel
theorem sh21_11 : ∀ n < 32, n * 2097152 / 2 ^ 11 % 32 = 0 := by decide +kernel
theorem sh21_6 : ∀ n < 32, n * 2097152 / 2 ^ 6 % 32 = 0 := by decide +kernel
theorem sh21_0 : ∀ n < 32, n * 2097152 % 64 = 0 := by decide +kernel
theorem sh16_21 : ∀ n < 32, n * 65536 / 2 ^ 21 % 32 = 0 := by decide +kernel
theorem sh16_16 : ∀ n < 32, n * 65536 / 2 ^ 16 % 32 = n := by decide +kernel
theorem sh16_11 : ∀ n < 32, n * 65536 / 2 ^ 11 % 32 = 0 := by decide +kernel
theorem sh16_6 : ∀ n < 32, n * 65536 / 2 ^ 6 % 32 = 0 := by decide +kernel
theorem sh16_0 : ∀ n < 32, n * 65536 % 64 = 0 := by decide +kernel
theorem sh11_21 : ∀ n < 32, n * 2048 / 2 ^ 21 % 32 = 0 := by decide +kernel
theorem sh11_16 : ∀ n < 32, n * 2048 / 2 ^ 16 % 32 = 0 := by decide +kernel
theorem sh11_11 : ∀ n < 32, n * 2048 / 2 ^ 11 % 32 = n := by decide +kernel
theorem sh11_6 : ∀ n < 32, n * 2048 / 2 ^ 6 % 32 = 0 := by decide +kernel
theorem sh11_0 : ∀ n < 32, n * 2048 % 64 = 0 := by decide +kernel
theorem sh6_21 : ∀ n < 32, n * 64 / 2 ^ 21 % 32 = 0 := by decide +kernel
theorem sh6_16 : ∀ n < 32, n * 64 / 2 ^ 16 % 32 = 0 := by decide +kernel
theorem sh6_11 : ∀ n < 32, n * 64 / 2 ^ 11 % 32 = 0 := by decide +kernel
theorem sh6_6 : ∀ n < 32, n * 64 / 2 ^ 6 % 32 = n := by decide +kernel
theorem sh6_0 : ∀ n < 32, n * 64 % 64 = 0 := by decide +kernel

theorem regs_at (s t d a : Nat) (hs : s < 32) (ht : t < 32) (hd : d < 32) (ha : a < 32) :
    Dec.regs s t d a / 2 ^ 21 % 32 = s ∧ Dec.regs s t d a / 2 ^ 16 % 32 = t ∧ Dec.regs s t d a / 2 ^ 11 % 32 = d ∧ Dec.regs s t d a / 2 ^ 6 % 32 = a ∧ Dec.regs s t d a % 64 = 0 := by
  unfold Dec.regs
  rw [low_nat s hs, low_nat t ht, low_nat d hd, low_nat a ha]
  refine ⟨?_, ?_, ?_, ?_, ?_⟩
  · rw [for_, for_, for_, sh21_21 s hs, sh16_21 t ht, sh11_21 d hd, sh6_21 a ha]; simp
  · rw [for_, for_, for_, sh21_16 s hs, sh16_16 t ht, sh11_16 d hd, sh6_16 a ha]; simp
  · rw [for_, for_, for_, sh21_11 s hs, sh16_11 t ht, sh11_11 d hd, sh6_11 a ha]; simp
  · rw [for_, for_, for_, sh21_6 s hs, sh16_6 t ht, sh11_6 d hd, sh6_6 a ha]; simp
  · rw [for6, for6, for6, sh21_0 s hs, sh16_0 t ht, sh11_0 d hd, sh6_0 a ha]; simp

theorem laid_at (op : Nat) (s t d a : Nat) (hs : s < 32) (ht : t < 32) (hd : d < 32) (ha : a < 32) (i : Int) :
    Dec.laid op s t d a i / 2 ^ 21 % 32 = (Dec.fixed op / 2 ^ 21 % 32 ||| (s &&& (Dec.lregs (Dec.fm op) / 2 ^ 21 % 32))) ||| ((i % 4294967296).toNat / 2 ^ 21 % 32 &&& (Dec.limm (Dec.fm op) / 2 ^ 21 % 32)) ∧
    Dec.laid op s t d a i / 2 ^ 16 % 32 = ((Dec.fixed op / 2 ^ 16 % 32 ||| (t &&& (Dec.lregs (Dec.fm op) / 2 ^ 16 % 32))) ||| (d &&& (Dec.lagain (Dec.fm op) / 2 ^ 16 % 32))) ||| ((i % 4294967296).toNat / 2 ^ 16 % 32 &&& (Dec.limm (Dec.fm op) / 2 ^ 16 % 32)) ∧
    Dec.laid op s t d a i / 2 ^ 11 % 32 = (Dec.fixed op / 2 ^ 11 % 32 ||| (d &&& (Dec.lregs (Dec.fm op) / 2 ^ 11 % 32))) ||| ((i % 4294967296).toNat / 2 ^ 11 % 32 &&& (Dec.limm (Dec.fm op) / 2 ^ 11 % 32)) ∧
    Dec.laid op s t d a i / 2 ^ 6 % 32 = (Dec.fixed op / 2 ^ 6 % 32 ||| (a &&& (Dec.lregs (Dec.fm op) / 2 ^ 6 % 32))) ||| ((i % 4294967296).toNat / 2 ^ 6 % 32 &&& (Dec.limm (Dec.fm op) / 2 ^ 6 % 32)) ∧
    Dec.laid op s t d a i % 64 = Dec.fixed op % 64 ||| ((i % 4294967296).toNat % 64 &&& (Dec.limm (Dec.fm op) % 64)) := by
  obtain ⟨r1, r2, r3, r4, r5⟩ := regs_at s t d a hs ht hd ha
  have e1 : d * 65536 / 2 ^ 21 % 32 = 0 := sh16_21 d hd
  have e2 : d * 65536 / 2 ^ 16 % 32 = d := sh16_16 d hd
  have e3 : d * 65536 / 2 ^ 11 % 32 = 0 := sh16_11 d hd
  have e4 : d * 65536 / 2 ^ 6 % 32 = 0 := sh16_6 d hd
  have e5 : d * 65536 % 64 = 0 := sh16_0 d hd
  unfold Dec.laid
  simp only [for_, for6, fand, fand6, r1, r2, r3, r4, r5, low_nat d hd, e1, e2, e3, e4, e5, Nat.zero_and, Nat.or_zero, and_self]

/-- A word of its fields. -/
def W (m s t d a n : Nat) : Nat := ((((m * 32 + s) * 32 + t) * 32 + d) * 32 + a) * 64 + n

/-- The document's word of an instruction's fields, form by form. -/
def FW (f m n s t d a : Nat) (i : Int) : Nat :=
  match f with
  | 1 => W m 0 t d a n
  | 2 => W m s t d 0 n
  | 3 => W m s 0 0 0 n
  | 4 => W m s 0 d 0 n
  | 5 => W m s t d 0 n
  | 6 => W m 0 0 0 0 n
  | 7 => W m 0 0 d 0 n
  | 8 => W m s 0 0 0 n
  | 9 => W m s t 0 0 n
  | 10 => W m s d d 0 n
  | 11 => W m s n 0 0 0 + (i % 65536).toNat
  | 12 => W m 0 0 0 0 0 + (i % 67108864).toNat
  | 16 => W m 0 t 0 0 0 + (i % 65536).toNat
  | 17 => W m n t d 0 0
  | 18 => W m 16 0 0 0 n
  | _ => W m s t 0 0 0 + (i % 65536).toNat

/-- The fields of what all words of an op have, form by form. -/
def fixedAs (op : Nat) : Bool :=
  let f := Dec.fm op
  Dec.fixed op / 2 ^ 21 % 32 == (if f = 17 then Dec.mn op else if f = 18 then 16 else 0) && Dec.fixed op / 2 ^ 16 % 32 == (if f = 11 then Dec.mn op else 0) &&
    Dec.fixed op / 2 ^ 11 % 32 == 0 && Dec.fixed op / 2 ^ 6 % 32 == 0 && Dec.fixed op % 64 == (if f = 17 ∨ f = 11 then 0 else Dec.mn op) && (f < 11 || f == 17 || f == 18 || f == 11 || Dec.mn op == 0)

theorem fixed_as : ∀ op < 69, fixedAs op = true := by decide +kernel

theorem whole (L : Nat) (h : L < 4294967296) : L = W (L / 67108864) (L / 2 ^ 21 % 32) (L / 2 ^ 16 % 32) (L / 2 ^ 11 % 32) (L / 2 ^ 6 % 32) (L % 64) := by
  unfold W; omega

theorem m31 (n : Nat) (h : n < 32) : n &&& 31 = n := by rw [nat_mask5]; omega

theorem laid_FW (op : Nat) (h : op < 69) (s t d a : Nat) (hs : s < 32) (ht : t < 32) (hd : d < 32) (ha : a < 32) (i : Int) :
    Dec.laid op s t d a i = FW (Dec.fm op) (Dec.mj op) (Dec.mn op) s t d a i := by
  have hl := Dec.laid_lt op h s t d a i
  have hm := Dec.major_of_shut op _ h hl (Dec.laid_shut op h s t d a i)
  obtain ⟨k1, k2, k3, k4, k5⟩ := laid_at op s t d a hs ht hd ha i
  have hf := fixed_as op h
  have hr := Dec.fm_lt op h
  rw [whole _ hl, hm, k1, k2, k3, k4, k5]
  clear k1 k2 k3 k4 k5 hl hm
  have h16 : (i % 4294967296).toNat / 2 ^ 11 % 32 * 2048 + (i % 4294967296).toNat / 2 ^ 6 % 32 * 64 + (i % 4294967296).toNat % 64 = (i % 65536).toNat := by omega
  have h26 : W 0 ((i % 4294967296).toNat / 2 ^ 21 % 32) ((i % 4294967296).toNat / 2 ^ 16 % 32) ((i % 4294967296).toNat / 2 ^ 11 % 32) ((i % 4294967296).toNat / 2 ^ 6 % 32) ((i % 4294967296).toNat % 64) = (i % 67108864).toNat := by unfold W; omega
  simp only [fixedAs, Bool.and_eq_true, beq_iff_eq] at hf
  obtain ⟨⟨⟨⟨⟨f1, f2⟩, f3⟩, f4⟩, f5⟩, f6⟩ := hf
  have x1 : (i % 4294967296).toNat / 2 ^ 21 % 32 &&& 31 = (i % 4294967296).toNat / 2 ^ 21 % 32 := m31 _ (Nat.mod_lt _ (by decide))
  have x2 : (i % 4294967296).toNat / 2 ^ 16 % 32 &&& 31 = (i % 4294967296).toNat / 2 ^ 16 % 32 := m31 _ (Nat.mod_lt _ (by decide))
  have x3 : (i % 4294967296).toNat / 2 ^ 11 % 32 &&& 31 = (i % 4294967296).toNat / 2 ^ 11 % 32 := m31 _ (Nat.mod_lt _ (by decide))
  have x4 : (i % 4294967296).toNat / 2 ^ 6 % 32 &&& 31 = (i % 4294967296).toNat / 2 ^ 6 % 32 := m31 _ (Nat.mod_lt _ (by decide))
  have x5 : (i % 4294967296).toNat % 64 &&& 63 = (i % 4294967296).toNat % 64 := by rw [nat_mask6, Nat.mod_mod]
  generalize (i % 4294967296).toNat / 2 ^ 21 % 32 = X1 at *
  generalize (i % 4294967296).toNat / 2 ^ 16 % 32 = X2 at *
  generalize (i % 4294967296).toNat / 2 ^ 11 % 32 = X3 at *
  generalize (i % 4294967296).toNat / 2 ^ 6 % 32 = X4 at *
  generalize (i % 4294967296).toNat % 64 = X5 at *
  generalize Dec.fixed op / 2 ^ 21 % 32 = F1 at *
  generalize Dec.fixed op / 2 ^ 16 % 32 = F2 at *
  generalize Dec.fixed op / 2 ^ 11 % 32 = F3 at *
  generalize Dec.fixed op / 2 ^ 6 % 32 = F4 at *
  generalize Dec.fixed op % 64 = F5 at *
  have e26 := h26.symm
  have e16 := h16.symm
  clear h26 h16
  generalize Dec.mn op = n at *
  generalize Dec.mj op = m at *
  generalize Dec.fm op = f at *
  have y1 := m31 s hs
  have y2 := m31 t ht
  have y3 := m31 d hd
  have y4 := m31 a ha
  have hcases : f = 1 ∨ f = 2 ∨ f = 3 ∨ f = 4 ∨ f = 5 ∨ f = 6 ∨ f = 7 ∨ f = 8 ∨ f = 9 ∨ f = 10 ∨ f = 11 ∨ f = 12 ∨ f = 13 ∨ f = 14 ∨ f = 15 ∨ f = 16 ∨ f = 17 ∨ f = 18 ∨ f = 19 := by omega
  rcases hcases with rfl | rfl | rfl | rfl | rfl | rfl | rfl | rfl | rfl | rfl | rfl | rfl | rfl | rfl | rfl | rfl | rfl | rfl | rfl
  all_goals
    simp at f1 f2 f5 f6
    subst f1 f2 f3 f4 f5
    simp [Dec.lregs, Dec.limm, Dec.lagain, FW, x1, x2, x3, x4, x5, y1, y2, y3, y4, e16, e26]
    try simp only [f6, Nat.zero_or]
    try (unfold W; omega)

/-- Which registers a form has, and which numbers. -/
def HasS (f : Nat) : Bool := f == 2 || f == 3 || f == 4 || f == 5 || f == 8 || f == 9 || f == 10 || f == 11 || f == 13 || f == 14 || f == 15 || f == 19
def HasT (f : Nat) : Bool := f == 1 || f == 2 || f == 5 || f == 9 || f == 13 || f == 14 || f == 15 || f == 16 || f == 17 || f == 19
def HasD (f : Nat) : Bool := f == 1 || f == 2 || f == 4 || f == 5 || f == 7 || f == 10 || f == 17
def HasA (f : Nat) : Bool := f == 1
def ImmOk (f : Nat) (i : Int) : Prop :=
  if f = 11 ∨ f = 13 ∨ f = 14 ∨ f = 19 then -32768 ≤ i ∧ i ≤ 32767 else if f = 15 ∨ f = 16 then 0 ≤ i ∧ i ≤ 65535 else if f = 12 then 0 ≤ i ∧ i ≤ 67108863 else i = 0

/-- The fields that are drawn of the word are those that were laid, where the form has them. -/
theorem drawn_laid (op : Nat) (h : op < 69) (s t d a : Nat) (hs : s < 32) (ht : t < 32) (hd : d < 32) (ha : a < 32) (i : Int) :
    Dec.ds op (Dec.laid op s t d a i) = (if HasS (Dec.fm op) then s else 0) ∧ Dec.dt op (Dec.laid op s t d a i) = (if HasT (Dec.fm op) then t else 0) ∧
    Dec.dd op (Dec.laid op s t d a i) = (if HasD (Dec.fm op) then d else 0) ∧ Dec.da op (Dec.laid op s t d a i) = (if HasA (Dec.fm op) then a else 0) ∧
    Dec.laid op s t d a i &&& Dec.limm (Dec.fm op) = (i % 4294967296).toNat &&& Dec.limm (Dec.fm op) := by
  obtain ⟨k1, k2, k3, k4, k5⟩ := laid_at op s t d a hs ht hd ha i
  have hf := fixed_as op h
  have hr := Dec.fm_lt op h
  have q1 := fand (Dec.laid op s t d a i) (Dec.lregs (Dec.fm op)) 21
  have q2 := fand (Dec.laid op s t d a i) (Dec.lregs (Dec.fm op)) 16
  have q3 := fand (Dec.laid op s t d a i) (Dec.lregs (Dec.fm op)) 11
  have q4 := fand (Dec.laid op s t d a i) (Dec.lregs (Dec.fm op)) 6
  rw [k1] at q1
  rw [k2] at q2
  rw [k3] at q3
  rw [k4] at q4
  have w1 : Dec.fixed op &&& Dec.limm (Dec.fm op) = 0 := by
    have : ∀ op < 69, Dec.fixed op &&& Dec.limm (Dec.fm op) = 0 := by decide +kernel
    exact this op h
  have w2 : ∀ f < 20, Dec.lregs f &&& Dec.limm f = 0 := by decide +kernel
  have w3 : ∀ f < 20, Dec.lagain f &&& Dec.limm f = 0 := by decide +kernel
  refine ⟨?_, ?_, ?_, ?_, ?_⟩
  case _ =>
    show (Dec.laid op s t d a i &&& Dec.lregs (Dec.fm op)) / 2 ^ 21 % 32 = _
    rw [q1]
    clear q1 q2 q3 q4 k1 k2 k3 k4 k5 w1 w2 w3
    simp only [fixedAs, Bool.and_eq_true, beq_iff_eq] at hf
    obtain ⟨⟨⟨⟨⟨f1, f2⟩, f3⟩, f4⟩, f5⟩, f6⟩ := hf
    generalize Dec.fixed op / 2 ^ 21 % 32 = F1 at *
    generalize Dec.fm op = f at *
    have y := m31 s hs
    have hcases : f = 1 ∨ f = 2 ∨ f = 3 ∨ f = 4 ∨ f = 5 ∨ f = 6 ∨ f = 7 ∨ f = 8 ∨ f = 9 ∨ f = 10 ∨ f = 11 ∨ f = 12 ∨ f = 13 ∨ f = 14 ∨ f = 15 ∨ f = 16 ∨ f = 17 ∨ f = 18 ∨ f = 19 := by omega
    rcases hcases with rfl | rfl | rfl | rfl | rfl | rfl | rfl | rfl | rfl | rfl | rfl | rfl | rfl | rfl | rfl | rfl | rfl | rfl | rfl
    all_goals
      simp at f1
      simp [Dec.lregs, Dec.limm, HasS, f1, y]
  case _ =>
    show (Dec.laid op s t d a i &&& Dec.lregs (Dec.fm op)) / 2 ^ 16 % 32 = _
    rw [q2]
    clear q1 q2 q3 q4 k1 k2 k3 k4 k5 w1 w2 w3
    simp only [fixedAs, Bool.and_eq_true, beq_iff_eq] at hf
    obtain ⟨⟨⟨⟨⟨f1, f2⟩, f3⟩, f4⟩, f5⟩, f6⟩ := hf
    generalize Dec.fixed op / 2 ^ 16 % 32 = F1 at *
    generalize Dec.fm op = f at *
    have y := m31 t ht
    have hcases : f = 1 ∨ f = 2 ∨ f = 3 ∨ f = 4 ∨ f = 5 ∨ f = 6 ∨ f = 7 ∨ f = 8 ∨ f = 9 ∨ f = 10 ∨ f = 11 ∨ f = 12 ∨ f = 13 ∨ f = 14 ∨ f = 15 ∨ f = 16 ∨ f = 17 ∨ f = 18 ∨ f = 19 := by omega
    rcases hcases with rfl | rfl | rfl | rfl | rfl | rfl | rfl | rfl | rfl | rfl | rfl | rfl | rfl | rfl | rfl | rfl | rfl | rfl | rfl
    all_goals
      simp at f2
      simp [Dec.lregs, Dec.limm, Dec.lagain, HasT, f2, y]
  case _ =>
    show (Dec.laid op s t d a i &&& Dec.lregs (Dec.fm op)) / 2 ^ 11 % 32 = _
    rw [q3]
    clear q1 q2 q3 q4 k1 k2 k3 k4 k5 w1 w2 w3
    simp only [fixedAs, Bool.and_eq_true, beq_iff_eq] at hf
    obtain ⟨⟨⟨⟨⟨f1, f2⟩, f3⟩, f4⟩, f5⟩, f6⟩ := hf
    rw [f3]
    generalize Dec.fm op = f at *
    have y := m31 d hd
    have hcases : f = 1 ∨ f = 2 ∨ f = 3 ∨ f = 4 ∨ f = 5 ∨ f = 6 ∨ f = 7 ∨ f = 8 ∨ f = 9 ∨ f = 10 ∨ f = 11 ∨ f = 12 ∨ f = 13 ∨ f = 14 ∨ f = 15 ∨ f = 16 ∨ f = 17 ∨ f = 18 ∨ f = 19 := by omega
    rcases hcases with rfl | rfl | rfl | rfl | rfl | rfl | rfl | rfl | rfl | rfl | rfl | rfl | rfl | rfl | rfl | rfl | rfl | rfl | rfl
    all_goals simp [Dec.lregs, Dec.limm, HasD, y]
  case _ =>
    show (Dec.laid op s t d a i &&& Dec.lregs (Dec.fm op)) / 2 ^ 6 % 32 = _
    rw [q4]
    clear q1 q2 q3 q4 k1 k2 k3 k4 k5 w1 w2 w3
    simp only [fixedAs, Bool.and_eq_true, beq_iff_eq] at hf
    obtain ⟨⟨⟨⟨⟨f1, f2⟩, f3⟩, f4⟩, f5⟩, f6⟩ := hf
    rw [f4]
    generalize Dec.fm op = f at *
    have y := m31 a ha
    have hcases : f = 1 ∨ f = 2 ∨ f = 3 ∨ f = 4 ∨ f = 5 ∨ f = 6 ∨ f = 7 ∨ f = 8 ∨ f = 9 ∨ f = 10 ∨ f = 11 ∨ f = 12 ∨ f = 13 ∨ f = 14 ∨ f = 15 ∨ f = 16 ∨ f = 17 ∨ f = 18 ∨ f = 19 := by omega
    rcases hcases with rfl | rfl | rfl | rfl | rfl | rfl | rfl | rfl | rfl | rfl | rfl | rfl | rfl | rfl | rfl | rfl | rfl | rfl | rfl
    all_goals simp [Dec.lregs, Dec.limm, HasA, y]
  case _ =>
    unfold Dec.laid
    rw [Nat.and_or_distrib_right, Nat.and_or_distrib_right, Nat.and_or_distrib_right, w1, Dec.under _ _ _ (w2 _ hr.2), Dec.under _ _ _ (w3 _ hr.2), Nat.and_assoc, Nat.and_self]
    simp

theorem di_laid (op : Nat) (h : op < 69) (s t d a : Nat) (hs : s < 32) (ht : t < 32) (hd : d < 32) (ha : a < 32) (i : Int) :
    Dec.di op (Dec.laid op s t d a i) = i ↔ ImmOk (Dec.fm op) i := by
  have e := (drawn_laid op h s t d a hs ht hd ha i).2.2.2.2
  have hr := Dec.fm_lt op h
  unfold Dec.di ImmOk
  rw [e]
  clear e
  generalize Dec.fm op = f at *
  have m16 : (i % 4294967296).toNat &&& 65535 = (i % 4294967296).toNat % 65536 := Nat.and_two_pow_sub_one_eq_mod _ 16
  have m26 : (i % 4294967296).toNat &&& 67108863 = (i % 4294967296).toNat % 67108864 := Nat.and_two_pow_sub_one_eq_mod _ 26
  have hcases : f = 1 ∨ f = 2 ∨ f = 3 ∨ f = 4 ∨ f = 5 ∨ f = 6 ∨ f = 7 ∨ f = 8 ∨ f = 9 ∨ f = 10 ∨ f = 11 ∨ f = 12 ∨ f = 13 ∨ f = 14 ∨ f = 15 ∨ f = 16 ∨ f = 17 ∨ f = 18 ∨ f = 19 := by omega
  rcases hcases with rfl | rfl | rfl | rfl | rfl | rfl | rfl | rfl | rfl | rfl | rfl | rfl | rfl | rfl | rfl | rfl | rfl | rfl | rfl
  all_goals
    simp [Dec.lsigned, Dec.limm, Dec.sign, m16, m26]
    try (first | omega | (split <;> omega) | (constructor <;> intro q <;> omega))

end Go.Proofs.YtbgklaahmmfpjaaDoor.De
