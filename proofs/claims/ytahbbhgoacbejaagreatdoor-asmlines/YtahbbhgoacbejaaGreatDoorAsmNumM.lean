/- The numbers that stand in a text, as the document draws them: those of a text's fields are its fields. -/
import Derived.Test.YtahbbhgoacbejaaGreatDoorAsmPlain
set_option linter.unusedVariables false
set_option linter.unusedSimpArgs false
namespace Go.Proofs.YtahbbhgoacbejaaGreatDoor
open Go

def Asm.dig (c : UInt8) : Bool := decide (48 ≤ c.toNat) && decide (c.toNat ≤ 57)

/-- The number of digits, of the first eight of them; and how many there are. -/
def Asm.inner : List UInt8 → Nat → Nat → Nat × Nat
  | [], n, m => (n, m)
  | c :: l, n, m => Asm.inner l (if m < 8 then 10 * n + (c.toNat - 48) else n) (m + 1)

def Asm.numsF (l : List UInt8) (minus : Bool) : List Int :=
  match l with
  | [] => []
  | c :: r => if h : Asm.dig c = true then (if minus then -((Asm.inner ((c :: r).takeWhile Asm.dig) 0 0).1 : Int) else ((Asm.inner ((c :: r).takeWhile Asm.dig) 0 0).1 : Int)) :: Asm.numsF (r.dropWhile Asm.dig) false else Asm.numsF r (c == 45)
termination_by l.length
decreasing_by
  · have := (List.dropWhile_suffix (l := r) Asm.dig).length_le
    simp only [List.length_cons]
    omega
  · simp only [List.length_cons]
    omega

theorem Asm.numsF_nil (b : Bool) : Asm.numsF [] b = [] := by rw [Asm.numsF]
theorem Asm.numsF_skip {c : UInt8} {r : List UInt8} (b : Bool) (h : Asm.dig c = false) : Asm.numsF (c :: r) b = Asm.numsF r (c == 45) := by
  rw [Asm.numsF, dif_neg (by simp [h])]
theorem Asm.numsF_take {c : UInt8} {r : List UInt8} (b : Bool) (h : Asm.dig c = true) :
    Asm.numsF (c :: r) b = (if b then -((Asm.inner ((c :: r).takeWhile Asm.dig) 0 0).1 : Int) else ((Asm.inner ((c :: r).takeWhile Asm.dig) 0 0).1 : Int)) :: Asm.numsF ((c :: r).dropWhile Asm.dig) false := by
  rw [Asm.numsF, dif_pos h, List.dropWhile_cons, if_pos h]

theorem Asm.inner_snoc : ∀ (l : List UInt8) (c : UInt8) (n m : Nat), Asm.inner (l ++ [c]) n m = ((if (Asm.inner l n m).2 < 8 then 10 * (Asm.inner l n m).1 + (c.toNat - 48) else (Asm.inner l n m).1), (Asm.inner l n m).2 + 1)
  | [], c, n, m => rfl
  | b :: l, c, n, m => by rw [List.cons_append, Asm.inner, Asm.inner_snoc l c, Asm.inner]
theorem Asm.inner_many : ∀ (l : List UInt8) (n m : Nat), (Asm.inner l n m).2 = m + l.length
  | [], n, m => rfl
  | b :: l, n, m => by rw [Asm.inner, Asm.inner_many l, List.length_cons]; omega

theorem Asm.digits_pow : ∀ (k u : Nat), u < 10 ^ (k + 1) → (Lib.decDigits u).length ≤ k + 1
  | 0, u, h => by rw [Lib.decDigits, dif_pos (by simpa using h)]; simp
  | k + 1, u, h => by
    rw [Lib.decDigits]
    split
    · simp
    · have := Asm.digits_pow k (u / 10) (by rw [Nat.pow_succ] at h; omega)
      simp
      omega

theorem Asm.inner_digits (u : Nat) : u < 100000000 → (Asm.inner (Lib.decDigits u) 0 0).1 = u := by
  induction u using Nat.strongRecOn with
  | ind u ih =>
    intro hu
    rw [Lib.decDigits]
    split
    · rename_i h
      have e : (UInt8.ofNat (48 + u)).toNat = 48 + u := by rw [UInt8.toNat_ofNat']; omega
      simp only [Asm.inner, e]
      simp
    · rename_i h
      have e : (UInt8.ofNat (48 + u % 10)).toNat = 48 + u % 10 := by rw [UInt8.toNat_ofNat']; omega
      have h1 := ih (u / 10) (by omega) (by omega)
      have h2 := Asm.inner_many (Lib.decDigits (u / 10)) 0 0
      have h3 := Asm.digits_pow 6 (u / 10) (by omega)
      rw [Asm.inner_snoc, if_pos (by omega), h1, e]
      show 10 * (u / 10) + (48 + u % 10 - 48) = u
      omega

theorem Asm.digits_dig (u : Nat) : ∀ c ∈ Lib.decDigits u, Asm.dig c = true := by
  intro c hc
  have := Asm.digits_all u c hc
  simp [Asm.dig, this]

/-- Nothing, or a byte first that is no digit. -/
def Asm.flat (x : List UInt8) : Prop := ∀ c r, x = c :: r → Asm.dig c = false

theorem Asm.take_dig : ∀ (l x : List UInt8), (∀ c ∈ l, Asm.dig c = true) → Asm.flat x → (l ++ x).takeWhile Asm.dig = l ∧ (l ++ x).dropWhile Asm.dig = x
  | [], x, _, hx => by
    cases x with
    | nil => exact ⟨rfl, rfl⟩
    | cons c r =>
      have := hx c r rfl
      simp only [List.nil_append, List.takeWhile_cons, List.dropWhile_cons, this]
      exact ⟨rfl, rfl⟩
  | b :: l, x, hl, hx => by
    obtain ⟨h1, h2⟩ := Asm.take_dig l x (fun c hc => hl c (List.mem_cons_of_mem _ hc)) hx
    have hb := hl b List.mem_cons_self
    simp only [List.cons_append, List.takeWhile_cons, List.dropWhile_cons, hb, if_true, h1, h2]
    exact ⟨trivial, trivial⟩

theorem Asm.numsF_digits (u : Nat) (hu : u < 100000000) (x : List UInt8) (hx : Asm.flat x) (b : Bool) : Asm.numsF (Lib.decDigits u ++ x) b = (if b then -(u : Int) else (u : Int)) :: Asm.numsF x false := by
  obtain ⟨h1, h2⟩ := Asm.take_dig (Lib.decDigits u) x (Asm.digits_dig u) hx
  have h3 := Asm.inner_digits u hu
  obtain ⟨c, r, e, -⟩ := Asm.digits_cons u
  have hc : Asm.dig c = true := Asm.digits_dig u c (by rw [e]; simp)
  rw [e] at h1 h2 h3 ⊢
  rw [List.cons_append] at h1 h2 ⊢
  rw [Asm.numsF_take b hc, h1, h2, h3]

theorem Asm.numsF_itoa (n : Int) (h0 : -100000000 < n) (h1 : n < 100000000) (x : List UInt8) (hx : Asm.flat x) : Asm.numsF (Lib.itoa n ++ x) false = n :: Asm.numsF x false := by
  unfold Lib.itoa
  split
  · rw [List.cons_append, Asm.numsF_skip false (by decide)]
    have := Asm.numsF_digits n.natAbs (by omega) x hx ((45 : UInt8) == 45)
    rw [this]
    simp
    omega
  · rw [Asm.numsF_digits n.toNat (by omega) x hx false]
    simp
    omega

/-- Marks: bytes that are no digits, the last of them no minus. -/
def Asm.markd (m : List UInt8) : Bool := m.all (fun c => !Asm.dig c) && (match m.getLast? with | some c => c != 45 | none => false)

theorem Asm.numsF_mark : ∀ (m x : List UInt8), m.all (fun c => !Asm.dig c) = true → (match m.getLast? with | some c => c != 45 | none => false) = true → ∀ b, Asm.numsF (m ++ x) b = Asm.numsF x false
  | [], x, _, h, b => by cases h
  | [c], x, h1, h2, b => by
    have hc : Asm.dig c = false := by simpa using h1
    have hd : (c == 45) = false := by simpa using h2
    rw [List.singleton_append, Asm.numsF_skip b hc, hd]
  | c :: c' :: m, x, h1, h2, b => by
    simp only [List.all_cons, Bool.and_eq_true] at h1
    have hc : Asm.dig c = false := by simpa using h1.1
    rw [List.cons_append, Asm.numsF_skip b hc]
    exact Asm.numsF_mark (c' :: m) x (by simp only [List.all_cons, Bool.and_eq_true]; exact h1.2) (by simpa [List.getLast?_cons_cons] using h2) _

def Asm.vals (r : List (List UInt8 × Option Nat)) (g : List Int) : List Int := r.filterMap fun p => p.2.map fun k => g.getD k 0

theorem Asm.markd_flat {m : List UInt8} (h : Asm.markd m = true) (x : List UInt8) : Asm.flat (m ++ x) := by
  intro c r e
  simp only [Asm.markd, Bool.and_eq_true] at h
  cases m with
  | nil => simp at h
  | cons b m =>
    simp only [List.cons_append, List.cons.injEq] at e
    obtain ⟨rfl, -⟩ := e
    have := h.1
    simp only [List.all_cons, Bool.and_eq_true] at this
    simpa using this.1

theorem Asm.say_flat {r : List (List UInt8 × Option Nat)} (h : (r.all fun p => Asm.markd p.1) = true) (g : List Int) : Asm.flat (Asm.say r g) := by
  cases r with
  | nil => intro c x e; cases e
  | cons p r =>
    simp only [List.all_cons, Bool.and_eq_true] at h
    have e : Asm.say (p :: r) g = p.1 ++ ((match p.2 with | some k => Lib.itoa (g.getD k 0) | none => []) ++ Asm.say r g) := by
      show (p :: r).flatMap (Asm.one · g) = p.1 ++ (_ ++ r.flatMap (Asm.one · g))
      rw [List.flatMap_cons, ← List.append_assoc]
      rfl
    rw [e]
    exact Asm.markd_flat h.1 _

theorem Asm.numsF_say : ∀ (r : List (List UInt8 × Option Nat)) (g : List Int), (r.all fun p => Asm.markd p.1) = true → (∀ k, -100000000 < g.getD k 0 ∧ g.getD k 0 < 100000000) → ∀ b, r ≠ [] ∨ b = false → Asm.numsF (Asm.say r g) b = Asm.vals r g
  | [], g, _, _, b, _ => by unfold Asm.say; exact Asm.numsF_nil b
  | (m, none) :: r, g, h, hs, b, _ => by
    simp only [List.all_cons, Bool.and_eq_true] at h
    have hm := h.1
    simp only [Asm.markd, Bool.and_eq_true] at hm
    have e : Asm.say ((m, none) :: r) g = m ++ Asm.say r g := by unfold Asm.say; rw [List.flatMap_cons]; unfold Asm.one; simp
    rw [e, Asm.numsF_mark m _ hm.1 hm.2, Asm.numsF_say r g h.2 hs false (Or.inr rfl)]
    simp [Asm.vals]
  | (m, some k) :: r, g, h, hs, b, _ => by
    simp only [List.all_cons, Bool.and_eq_true] at h
    have hm := h.1
    simp only [Asm.markd, Bool.and_eq_true] at hm
    have e : Asm.say ((m, some k) :: r) g = m ++ (Lib.itoa (g.getD k 0) ++ Asm.say r g) := by unfold Asm.say; rw [List.flatMap_cons]; unfold Asm.one; simp
    rw [e, Asm.numsF_mark m _ hm.1 hm.2, Asm.numsF_itoa _ (hs k).1 (hs k).2 _ (Asm.say_flat h.2 g), Asm.numsF_say r g h.2 hs false (Or.inr rfl)]
    simp [Asm.vals]

theorem Asm.rounds_markd : ∀ f < 20, ((Asm.rounds f).all fun p => Asm.markd p.1) = true := by decide +kernel

end Go.Proofs.YtahbbhgoacbejaaGreatDoor
