/- The plain arithmetic of sums of sixteen bits, bit by bit and byte by byte: they are linear, one to one, and what is sealed has the sum 0. No condition but the sizes that each fact names. -/
import Derived.RowKit3
namespace Go.Proofs.Ytflfgeolimkhgaa
namespace Crc

/-- One bit: the sum shifted left by one bit, and, if its highest bit was 1, exclusive or with 0x1021. -/
def step (n : Nat) : Nat := (2 * n % 65536) ^^^ (if 32768 ≤ n then 4129 else 0)

def steps : Nat → Nat → Nat
  | 0, n => n
  | k + 1, n => steps k (step n)

def byteOn (n b : Nat) : Nat := steps 8 (n ^^^ (b * 256))

def on (n : Nat) : List Nat → Nat
  | [] => n
  | b :: l => on (byteOn n b) l

theorem xor_lt {a b : Nat} (ha : a < 65536) (hb : b < 65536) : a ^^^ b < 65536 := Nat.xor_lt_two_pow (n := 16) ha hb

theorem step_lt (n : Nat) : step n < 65536 := by
  unfold step
  apply xor_lt
  · omega
  · split <;> omega

theorem high_bit {n : Nat} (h : n < 65536) : (32768 ≤ n) ↔ n.testBit 15 = true := by
  rw [Nat.testBit_eq_decide_div_mod_eq]
  simp
  omega

theorem step_def {n : Nat} (h : n < 65536) : step n = (2 * n % 65536) ^^^ (if n.testBit 15 = true then 4129 else 0) := by
  unfold step
  simp only [high_bit h]

theorem dbl_xor (a b : Nat) : 2 * (a ^^^ b) % 65536 = (2 * a % 65536) ^^^ (2 * b % 65536) := by
  apply Nat.eq_of_testBit_eq
  intro i
  have e : (65536 : Nat) = 2 ^ 16 := rfl
  rw [e]
  simp only [Nat.testBit_xor, Nat.testBit_mod_two_pow]
  have d : ∀ x : Nat, (2 * x).testBit i = (decide (1 ≤ i) && x.testBit (i - 1)) := by
    intro x
    rw [Nat.mul_comm, show x * 2 = x <<< 1 from by simp [Nat.shiftLeft_eq], Nat.testBit_shiftLeft]
  simp only [d, Nat.testBit_xor]
  cases decide (i < 16) <;> cases decide (1 ≤ i) <;> simp

theorem step_xor {a b : Nat} (ha : a < 65536) (hb : b < 65536) : step (a ^^^ b) = step a ^^^ step b := by
  rw [step_def ha, step_def hb, step_def (xor_lt ha hb), dbl_xor]
  simp only [Nat.testBit_xor]
  have ac : ∀ w x y z : Nat, (w ^^^ x) ^^^ (y ^^^ z) = (w ^^^ y) ^^^ (x ^^^ z) := by
    intro w x y z
    simp only [Nat.xor_assoc]
    congr 1
    rw [← Nat.xor_assoc, Nat.xor_comm x y, Nat.xor_assoc]
  rw [ac]
  congr 1
  cases a.testBit 15 <;> cases b.testBit 15 <;> simp

theorem step_zero : step 0 = 0 := by decide

theorem step_eq_zero {a : Nat} (ha : a < 65536) (h : step a = 0) : a = 0 := by
  unfold step at h
  by_cases g : 32768 ≤ a
  · rw [if_pos g] at h
    have e : (2 * a % 65536) ^^^ 4129 = 0 := h
    have b0 : ((2 * a % 65536) ^^^ 4129).testBit 0 = true := by
      rw [Nat.testBit_xor, Nat.testBit_eq_decide_div_mod_eq]
      have : (2 * a % 65536) / 2 ^ 0 % 2 = 0 := by omega
      rw [this]; decide
    rw [e] at b0
    simp at b0
  · rw [if_neg g] at h
    rw [Nat.xor_zero] at h
    omega

theorem xor_eq_zero {a b : Nat} (h : a ^^^ b = 0) : a = b := by
  have : a ^^^ b ^^^ b = 0 ^^^ b := by rw [h]
  rw [Nat.xor_assoc, Nat.xor_self, Nat.xor_zero, Nat.zero_xor] at this
  exact this

theorem step_inj {a b : Nat} (ha : a < 65536) (hb : b < 65536) (h : step a = step b) : a = b := by
  apply xor_eq_zero
  apply step_eq_zero (xor_lt ha hb)
  rw [step_xor ha hb, h, Nat.xor_self]

theorem steps_lt {k n : Nat} (h : n < 65536) : steps k n < 65536 := by
  induction k generalizing n with
  | zero => exact h
  | succ k ih => exact ih (step_lt n)

theorem steps_xor {k a b : Nat} (ha : a < 65536) (hb : b < 65536) : steps k (a ^^^ b) = steps k a ^^^ steps k b := by
  induction k generalizing a b with
  | zero => rfl
  | succ k ih => simp only [steps]; rw [step_xor ha hb, ih (step_lt a) (step_lt b)]

theorem steps_zero (k : Nat) : steps k 0 = 0 := by
  induction k with
  | zero => rfl
  | succ k ih => simp only [steps, step_zero, ih]

theorem steps_eq_zero {k a : Nat} (ha : a < 65536) (h : steps k a = 0) : a = 0 := by
  induction k generalizing a with
  | zero => exact h
  | succ k ih => exact step_eq_zero ha (ih (step_lt a) h)

theorem steps_inj {k a b : Nat} (ha : a < 65536) (hb : b < 65536) (h : steps k a = steps k b) : a = b := by
  apply xor_eq_zero
  apply steps_eq_zero (k := k) (xor_lt ha hb)
  rw [steps_xor ha hb, h, Nat.xor_self]

theorem steps_add (j k n : Nat) : steps (j + k) n = steps k (steps j n) := by
  induction j generalizing n with
  | zero => simp [steps]
  | succ j ih => rw [Nat.succ_add]; simp only [steps]; exact ih _

/-- Shifts that drop nothing are products. -/
theorem steps_small {k n : Nat} (h : n * 2 ^ k < 65536) : steps k n = n * 2 ^ k := by
  induction k generalizing n with
  | zero => simp [steps]
  | succ k ih =>
    simp only [steps]
    have p : 1 ≤ 2 ^ k := Nat.one_le_two_pow
    have e : n * 2 ^ (k + 1) = 2 * n * 2 ^ k := by rw [Nat.pow_succ, Nat.mul_comm (2 ^ k) 2, ← Nat.mul_assoc, Nat.mul_comm n 2]
    have l : 2 * n < 65536 := by
      have : 2 * n * 1 ≤ 2 * n * 2 ^ k := Nat.mul_le_mul_left _ p
      omega
    have s : step n = 2 * n := by
      unfold step
      rw [if_neg (by omega), Nat.xor_zero, Nat.mod_eq_of_lt l]
    rw [s, ih (by omega), e]

theorem byteOn_lt {n b : Nat} (hn : n < 65536) (hb : b < 256) : byteOn n b < 65536 := steps_lt (xor_lt hn (by omega))

theorem mul256_xor (a b : Nat) : (a ^^^ b) * 256 = a * 256 ^^^ b * 256 := by
  have e : ∀ x : Nat, x * 256 = x <<< 8 := fun x => by simp [Nat.shiftLeft_eq]
  simp only [e]
  exact Nat.shiftLeft_xor_distrib ..

theorem xor4 (w x y z : Nat) : (w ^^^ x) ^^^ (y ^^^ z) = (w ^^^ y) ^^^ (x ^^^ z) := by
  simp only [Nat.xor_assoc]
  congr 1
  rw [← Nat.xor_assoc, Nat.xor_comm x y, Nat.xor_assoc]

theorem byteOn_xor {m n a b : Nat} (hm : m < 65536) (hn : n < 65536) (ha : a < 256) (hb : b < 256) :
    byteOn (m ^^^ n) (a ^^^ b) = byteOn m a ^^^ byteOn n b := by
  unfold byteOn
  rw [mul256_xor, xor4, steps_xor (xor_lt hm (by omega)) (xor_lt hn (by omega))]

def small (l : List Nat) : Prop := ∀ b ∈ l, b < 256

theorem on_lt {n : Nat} {l : List Nat} (hn : n < 65536) (hl : small l) : on n l < 65536 := by
  induction l generalizing n with
  | nil => exact hn
  | cons b l ih =>
    exact ih (byteOn_lt hn (hl b (by simp))) (fun c hc => hl c (by simp [hc]))

theorem on_append (n : Nat) (l m : List Nat) : on n (l ++ m) = on (on n l) m := by
  induction l generalizing n with
  | nil => rfl
  | cons b l ih => exact ih _

/-- A turned sum to begin with: it goes through on its own. -/
theorem on_turn {m n : Nat} {l : List Nat} (hm : m < 65536) (hn : n < 65536) (hl : small l) :
    on (m ^^^ n) l = on m l ^^^ steps (8 * l.length) n := by
  induction l generalizing m n with
  | nil => rfl
  | cons b l ih =>
    have hb := hl b (by simp)
    have e : byteOn (m ^^^ n) b = byteOn m b ^^^ steps 8 n := by
      have := byteOn_xor hm hn hb (show 0 < 256 by omega)
      rw [Nat.xor_zero] at this
      rw [this]
      congr 1
      unfold byteOn
      rw [Nat.zero_mul, Nat.xor_zero]
    simp only [on]
    rw [e, ih (byteOn_lt hm hb) (steps_lt hn) (fun c hc => hl c (by simp [hc])), List.length_cons]
    rw [← steps_add, show 8 + 8 * l.length = 8 * (l.length + 1) by omega]

theorem on_inj {m n : Nat} {l : List Nat} (hm : m < 65536) (hn : n < 65536) (hl : small l) (h : on m l = on n l) : m = n := by
  have e := on_turn (m := n) (n := m ^^^ n) hn (xor_lt hm hn) hl
  have f : n ^^^ (m ^^^ n) = m := by rw [Nat.xor_comm m n, ← Nat.xor_assoc, Nat.xor_self, Nat.zero_xor]
  rw [f, h] at e
  have z : steps (8 * l.length) (m ^^^ n) = 0 := by
    have : on n l ^^^ on n l = on n l ^^^ (on n l ^^^ steps (8 * l.length) (m ^^^ n)) := by rw [← e]
    rw [Nat.xor_self, ← Nat.xor_assoc, Nat.xor_self, Nat.zero_xor] at this
    exact this.symm
  exact xor_eq_zero (steps_eq_zero (xor_lt hm hn) z)

theorem xor_div (n : Nat) : n ^^^ (n / 256 * 256) = n % 256 := by
  apply Nat.eq_of_testBit_eq
  intro i
  have e : n / 256 * 256 = (n >>> 8) <<< 8 := by simp [Nat.shiftLeft_eq, Nat.shiftRight_eq_div_pow]
  have e2 : (256 : Nat) = 2 ^ 8 := rfl
  rw [e, e2, Nat.testBit_mod_two_pow, Nat.testBit_xor, Nat.testBit_shiftLeft, Nat.testBit_shiftRight]
  by_cases g : i < 8
  · simp [g, show ¬ 8 ≤ i by omega]
  · simp [g, show 8 ≤ i by omega, show 8 + (i - 8) = i by omega]

/-- What is sealed has the sum 0. -/
theorem on_sealed (n : Nat) : on n [n / 256, n % 256] = 0 := by
  have s8 : steps 8 (n % 256) = n % 256 * 256 := steps_small (k := 8) (by omega)
  simp only [on, byteOn]
  rw [xor_div n, s8, Nat.xor_self]
  exact steps_zero 8

end Crc

end Go.Proofs.Ytflfgeolimkhgaa
