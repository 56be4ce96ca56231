/- The plain arithmetic of sums of texts that are laid over one another, and of texts with bits turned: they are linear, and no turn of up to sixteen bits one behind the other leaves a sum as it was. -/
import Derived.Test.YtflfgeolimkhgaaCrcPlain
namespace Go.Proofs.Ytflfgeolimkhgaa
namespace Crc

/-- The first n numbers of a row, as a list. -/
def row (n : Nat) (f : Nat → Nat) : List Nat := (List.range n).map f

theorem row_succ (n : Nat) (f : Nat → Nat) : row (n + 1) f = row n f ++ [f n] := by
  unfold row
  rw [List.range_succ, List.map_append]
  rfl

theorem row_length (n : Nat) (f : Nat → Nat) : (row n f).length = n := by
  unfold row
  rw [List.length_map, List.length_range]

theorem row_get (n : Nat) (f : Nat → Nat) (i : Nat) (h : i < (row n f).length) : (row n f)[i] = f i := by
  simp [row]

theorem row_small {n : Nat} {f : Nat → Nat} (h : ∀ j, f j < 256) : small (row n f) := by
  intro b hb
  unfold row at hb
  rw [List.mem_map] at hb
  obtain ⟨j, _, rfl⟩ := hb
  exact h j

theorem row_congr {n : Nat} {f g : Nat → Nat} (h : ∀ j, j < n → f j = g j) : row n f = row n g := by
  induction n with
  | zero => rfl
  | succ n ih => rw [row_succ, row_succ, ih (fun j hj => h j (by omega)), h n (by omega)]

theorem on_xor3 {x : Nat} {f g h : Nat → Nat} (hx : x < 65536) (hf : ∀ j, f j < 256) (hg : ∀ j, g j < 256) (hh : ∀ j, h j < 256) (n : Nat) :
    on x (row n fun j => f j ^^^ (g j ^^^ h j)) = (on x (row n f) ^^^ on x (row n g)) ^^^ on x (row n h) := by
  have xb : ∀ {a b : Nat}, a < 256 → b < 256 → a ^^^ b < 256 := fun ha hb => Nat.xor_lt_two_pow (n := 8) ha hb
  induction n with
  | zero =>
    show x = (x ^^^ x) ^^^ x
    rw [Nat.xor_self, Nat.zero_xor]
  | succ n ih =>
    have lf := on_lt (n := x) hx (row_small (n := n) hf)
    have lg := on_lt (n := x) hx (row_small (n := n) hg)
    have lh := on_lt (n := x) hx (row_small (n := n) hh)
    simp only [row_succ, on_append, ih]
    show byteOn _ _ = (byteOn _ _ ^^^ byteOn _ _) ^^^ byteOn _ _
    rw [← byteOn_xor lf lg (hf n) (hg n), ← byteOn_xor (xor_lt lf lg) lh (xb (hf n) (hg n)) (hh n), Nat.xor_assoc (f n)]

/-- A bit of a text that is turned: what it makes of the sum. -/
theorem on_toggle {x : Nat} {f : Nat → Nat} (hx : x < 65536) (hf : ∀ j, f j < 256) {n p : Nat} (hp : p < 8 * n) :
    on x (row n fun j => if j = p / 8 then f j ^^^ 2 ^ (7 - p % 8) else f j) = on x (row n f) ^^^ steps (8 * n - p) 32768 := by
  induction n with
  | zero => omega
  | succ n ih =>
    have lf := on_lt (n := x) hx (row_small (n := n) hf)
    have pw : 2 ^ (7 - p % 8) < 256 := Nat.pow_lt_pow_right (a := 2) (n := 8) (by decide) (by omega)
    simp only [row_succ, on_append]
    by_cases h : p < 8 * n
    · rw [ih h, if_neg (show ¬ n = p / 8 by omega)]
      show byteOn _ _ = byteOn _ _ ^^^ _
      have ls : steps (8 * n - p) 32768 < 65536 := steps_lt (by decide)
      have e := byteOn_xor lf ls (hf n) (show 0 < 256 by decide)
      rw [Nat.xor_zero] at e
      rw [e]
      congr 1
      unfold byteOn
      rw [Nat.zero_mul, Nat.xor_zero, ← steps_add, show 8 * n - p + 8 = 8 * (n + 1) - p by omega]
    · rw [if_pos (show n = p / 8 by omega)]
      have c : row n (fun j => if j = p / 8 then f j ^^^ 2 ^ (7 - p % 8) else f j) = row n f :=
        row_congr fun j hj => if_neg (by omega)
      rw [c]
      show byteOn _ _ = byteOn _ _ ^^^ _
      have e := byteOn_xor lf (show 0 < 65536 by decide) (hf n) pw
      rw [Nat.xor_zero] at e
      rw [e]
      congr 1
      unfold byteOn
      rw [Nat.zero_xor]
      have r : p % 8 + (15 - p % 8) = 15 := by omega
      have q : steps (p % 8) (2 ^ (7 - p % 8) * 256) = 32768 := by
        have m : 2 ^ (7 - p % 8) * 256 * 2 ^ (p % 8) = 32768 := by
          rw [show (256 : Nat) = 2 ^ 8 from rfl, ← Nat.pow_add, ← Nat.pow_add, show 7 - p % 8 + 8 + p % 8 = 15 by omega]
        rw [steps_small (by omega), m]
      rw [← q, ← steps_add, show p % 8 + (8 * (n + 1) - p) = 8 by omega]

/-- The turned bits up to number i, the first of them the highest. -/
def rev (t : Nat) : Nat → Nat
  | 0 => 0
  | i + 1 => rev t i ^^^ (if t / 2 ^ i % 2 = 1 then 2 ^ (15 - i) else 0)

theorem rev_lt (t : Nat) (i : Nat) : rev t i < 65536 := by
  induction i with
  | zero => exact (show 0 < 65536 by decide)
  | succ i ih =>
    unfold rev
    apply xor_lt ih
    split
    · exact Nat.pow_lt_pow_right (a := 2) (n := 16) (by decide) (by omega)
    · decide

theorem rev_bit (t : Nat) (j : Nat) (hj : j < 16) (i : Nat) (hi : i ≤ 16) : (rev t i).testBit (15 - j) = (decide (j < i) && decide (t / 2 ^ j % 2 = 1)) := by
  induction i with
  | zero => simp [rev]
  | succ i ih =>
    unfold rev
    rw [Nat.testBit_xor, ih (by omega)]
    by_cases e : j = i
    · subst e
      split <;> rename_i h
      · rw [Nat.testBit_two_pow_self]; simp [h]
      · simp [h]
    · have b : (if t / 2 ^ i % 2 = 1 then 2 ^ (15 - i) else 0).testBit (15 - j) = false := by
        split
        · rw [Nat.testBit_two_pow]; simp; omega
        · simp
      rw [b]
      have : (j < i + 1) ↔ (j < i) := by omega
      simp [this]

theorem rev_zero {t : Nat} (ht : t < 65536) (h : rev t 16 = 0) : t = 0 := by
  apply Nat.eq_of_testBit_eq
  intro j
  rw [Nat.zero_testBit]
  by_cases hj : j < 16
  · have := rev_bit t j hj 16 (by decide)
    rw [h, Nat.zero_testBit] at this
    rw [Nat.testBit_eq_decide_div_mod_eq]
    simpa [hj] using this.symm
  · exact Nat.testBit_lt_two_pow (Nat.lt_of_lt_of_le ht (Nat.pow_le_pow_right (n := 2) (i := 16) (by decide) (by omega)))

/-- One step of the turn: a bit more. -/
theorem steps_rev (t k L i : Nat) (hi : i < 16) (hk : k + 16 ≤ 8 * L) :
    steps (8 * L - k) (rev t (i + 1)) = steps (8 * L - k) (rev t i) ^^^ (if t / 2 ^ i % 2 = 1 then steps (8 * L - (k + i)) 32768 else 0) := by
  show steps _ (rev t i ^^^ _) = _
  split
  · have pl : 2 ^ (15 - i) < 65536 := Nat.pow_lt_pow_right (a := 2) (n := 16) (by decide) (by omega)
    rw [steps_xor (rev_lt t i) pl]
    congr 1
    have m : 2 ^ (15 - i) * 2 ^ i = 32768 := by rw [← Nat.pow_add, show 15 - i + i = 15 by omega]
    have q : steps i (2 ^ (15 - i)) = 32768 := by rw [steps_small (by omega), m]
    rw [← q, ← steps_add, show i + (8 * L - (k + i)) = 8 * L - k by omega]
  · rw [Nat.xor_zero, Nat.xor_zero]

end Crc

end Go.Proofs.Ytflfgeolimkhgaa
