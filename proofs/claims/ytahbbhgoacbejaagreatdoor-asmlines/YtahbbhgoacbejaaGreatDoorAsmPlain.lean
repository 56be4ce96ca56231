/- The texts of instructions: the marks and the numbers of each form, and that a text is read as what it was made of. -/
import Derived.Test.YtahbbhgoacbejaaGreatDoorDecPlain
import Derived.Lib.ItoaNum
import Derived.Lib.AtoiAll
import Derived.Lib.Strings
set_option linter.unusedVariables false
namespace Go.Proofs.YtahbbhgoacbejaaGreatDoor
open Go

/-- What is handed out in going over a form's fields: the marks, and which number stands behind them. -/
def Asm.rounds (f : Nat) : List (List UInt8 × Option Nat) :=
  [[], [([32, 36], some 2), ([44, 36], some 1), ([44], some 3)], [([32, 36], some 2), ([44, 36], some 1), ([44, 36], some 0)], [([32, 36], some 0)], [([32, 36], some 2), ([44, 36], some 0)],
    [([32, 36], some 2), ([44, 36], some 0), ([44, 36], some 1)], [], [([32, 36], some 2)], [([32, 36], some 0)], [([32, 36], some 0), ([44, 36], some 1)], [([32, 36], some 2), ([44, 36], some 0)],
    [([32, 36], some 0), ([44], some 4)], [([32], some 4)], [([32, 36], some 0), ([44, 36], some 1), ([44], some 4)], [([32, 36], some 1), ([44, 36], some 0), ([44], some 4)],
    [([32, 36], some 1), ([44, 36], some 0), ([44], some 4)], [([32, 36], some 1), ([44], some 4)], [([32, 36], some 1), ([44, 36], some 2)], [],
    [([32, 36], some 1), ([44], some 4), ([40, 36], some 0), ([41], none)]].getD f []

/-- The bytes of a number. -/
def Asm.nums : List UInt8 := [45, 48, 49, 50, 51, 52, 53, 54, 55, 56, 57]

def Asm.one (p : List UInt8 × Option Nat) (g : List Int) : List UInt8 := p.1 ++ (match p.2 with | some k => Lib.itoa (g.getD k 0) | none => [])
def Asm.say (r : List (List UInt8 × Option Nat)) (g : List Int) : List UInt8 := r.flatMap (Asm.one · g)
/-- An instruction's text. -/
def Asm.text (op : Nat) (g : List Int) : List UInt8 := (Dec.name op).data.toList ++ Asm.say (Asm.rounds (Dec.fm op)) g

/-- The number at a text's beginning, and what stands behind it. -/
def Asm.taken (s : List UInt8) : Option (Int × List UInt8) :=
  match Lib.atoiAll (s.takeWhile (Asm.nums.contains ·)) with
  | .ok n => some (n, s.dropWhile (Asm.nums.contains ·))
  | _ => none

def Asm.run : List (List UInt8 × Option Nat) → List UInt8 → List Int → Option (List Int)
  | [], _, g => some g
  | (m, none) :: r, rest, g => if Lib.hasPrefix rest m then Asm.run r (rest.drop m.length) g else none
  | (m, some k) :: r, rest, g => if Lib.hasPrefix rest m then (match Asm.taken (rest.drop m.length) with | none => none | some (n, rest') => Asm.run r rest' (g.set k n)) else none

def Asm.fill (r : List (List UInt8 × Option Nat)) (g0 g : List Int) : List Int :=
  r.foldl (fun acc p => match p.2 with | some k => acc.set k (g.getD k 0) | none => acc) g0

/-- A number that an int holds. -/
def Asm.small (n : Int) : Prop := -9223372036854775808 ≤ n ∧ n ≤ 9223372036854775807

theorem Asm.digits_cons (u : Nat) : ∃ c r, Lib.decDigits u = c :: r ∧ 48 ≤ c.toNat ∧ c.toNat ≤ 57 := by
  induction u using Nat.strongRecOn with
  | ind u ih =>
    rw [Lib.decDigits]
    split
    · refine ⟨_, _, rfl, ?_⟩
      rw [UInt8.toNat_ofNat']
      omega
    · obtain ⟨c, r, e, h⟩ := ih (u / 10) (by omega)
      exact ⟨c, r ++ [UInt8.ofNat (48 + u % 10)], by rw [e]; rfl, h⟩

theorem Asm.digits_all (u : Nat) : ∀ c ∈ Lib.decDigits u, 48 ≤ c.toNat ∧ c.toNat ≤ 57 := by
  induction u using Nat.strongRecOn with
  | ind u ih =>
    intro c hc
    rw [Lib.decDigits] at hc
    split at hc
    · rw [List.mem_singleton] at hc
      rw [hc, UInt8.toNat_ofNat']
      omega
    · rcases List.mem_append.mp hc with h | h
      · exact ih (u / 10) (by omega) c h
      · rw [List.mem_singleton] at h
        rw [h, UInt8.toNat_ofNat']
        omega

theorem Asm.parse_digits (u : Nat) : u < 18446744073709551616 → ∀ r, Lib.parseUint10 0 (Lib.decDigits u ++ r) = Lib.parseUint10 u r := by
  induction u using Nat.strongRecOn with
  | ind u ih =>
    intro hu r
    rw [Lib.decDigits]
    split
    · rw [List.singleton_append, Lib.parseUint10]
      have e : (UInt8.ofNat (48 + u)).toNat = 48 + u := by rw [UInt8.toNat_ofNat']; omega
      rw [e, if_pos (by omega), if_neg (by omega), if_neg (by omega)]
      congr 1
      omega
    · rw [List.append_assoc, ih (u / 10) (by omega) (by omega), List.singleton_append, Lib.parseUint10]
      have e : (UInt8.ofNat (48 + u % 10)).toNat = 48 + u % 10 := by rw [UInt8.toNat_ofNat']; omega
      rw [e, if_pos (by omega), if_neg (by omega), if_neg (by omega)]
      congr 1
      omega

theorem Asm.digit_num {c : UInt8} (h : 48 ≤ c.toNat ∧ c.toNat ≤ 57) : Asm.nums.contains c = true := by
  have : ∀ n : Nat, n < 256 → 48 ≤ n ∧ n ≤ 57 → Asm.nums.contains (UInt8.ofNat n) = true := by decide +kernel
  have h2 := this c.toNat (UInt8.toNat_lt c) h
  rwa [UInt8.ofNat_toNat] at h2

theorem Asm.itoa_nums (n : Int) : ∀ c ∈ Lib.itoa n, Asm.nums.contains c = true := by
  intro c hc
  unfold Lib.itoa at hc
  split at hc
  · rcases List.mem_cons.mp hc with rfl | h
    · decide
    · exact Asm.digit_num (Asm.digits_all _ c h)
  · exact Asm.digit_num (Asm.digits_all _ c hc)

theorem Asm.parseMag_digits (u : Nat) (h : u < 18446744073709551616) : Lib.parseMag (Lib.decDigits u) = .ok u := by
  obtain ⟨c, r, e, -⟩ := Asm.digits_cons u
  have := Asm.parse_digits u h []
  rw [List.append_nil] at this
  unfold Lib.parseMag
  rw [this, if_neg (by rw [e]; simp)]
  rfl

/-- A number's text is read as the number. -/
theorem Asm.atoi_itoa (n : Int) (h : Asm.small n) : Lib.atoiAll (Lib.itoa n) = .ok n := by
  obtain ⟨h0, h1⟩ := h
  by_cases hn : n < 0
  · have e : Lib.itoa n = 45 :: Lib.decDigits n.natAbs := by unfold Lib.itoa; rw [if_pos hn]
    rw [e]
    unfold Lib.atoiAll
    have e45 : (45 : UInt8).toNat = 45 := rfl
    simp only [e45]
    rw [if_pos (Or.inr trivial), Asm.parseMag_digits _ (by omega)]
    simp only
    rw [if_neg (by simp), if_neg (by omega)]
    simp only [if_true]
    congr 1
    omega
  · have e : Lib.itoa n = Lib.decDigits n.toNat := by unfold Lib.itoa; rw [if_neg hn]
    have hm := Asm.parseMag_digits n.toNat (by omega)
    obtain ⟨c, r, ec, k0, k1⟩ := Asm.digits_cons n.toNat
    rw [e, ec]
    rw [ec] at hm
    unfold Lib.atoiAll
    have c43 : ¬ (c.toNat = 43 ∨ c.toNat = 45) := by omega
    have c45 : ¬ (c.toNat = 45) := by omega
    simp only
    rw [if_neg c43, hm]
    simp only
    rw [if_neg (by omega), if_neg (by omega), if_neg c45]
    congr 1
    omega

/-- Nothing, or a byte first that is none of a number's. -/
def Asm.bare (x : List UInt8) : Prop := ∀ c r, x = c :: r → Asm.nums.contains c = false

theorem Asm.take_nums : ∀ (l x : List UInt8), (∀ c ∈ l, Asm.nums.contains c = true) → Asm.bare x →
    (l ++ x).takeWhile (Asm.nums.contains ·) = l ∧ (l ++ x).dropWhile (Asm.nums.contains ·) = x
  | [], x, _, hx => by
    cases x with
    | nil => exact ⟨rfl, rfl⟩
    | cons c r =>
      have := hx c r rfl
      simp only [List.nil_append, List.takeWhile_cons, List.dropWhile_cons, this]
      exact ⟨rfl, rfl⟩
  | b :: l, x, hl, hx => by
    obtain ⟨h1, h2⟩ := Asm.take_nums l x (fun c hc => hl c (List.mem_cons_of_mem _ hc)) hx
    have hb := hl b List.mem_cons_self
    simp only [List.cons_append, List.takeWhile_cons, List.dropWhile_cons, hb, if_true, h1, h2]
    exact ⟨trivial, trivial⟩

theorem Asm.taken_itoa (n : Int) (hn : Asm.small n) (x : List UInt8) (hx : Asm.bare x) : Asm.taken (Lib.itoa n ++ x) = some (n, x) := by
  obtain ⟨h1, h2⟩ := Asm.take_nums (Lib.itoa n) x (Asm.itoa_nums n) hx
  unfold Asm.taken
  rw [h1, h2, Asm.atoi_itoa n hn]

/-- Marks that begin with no byte of a number. -/
def Asm.marked (r : List (List UInt8 × Option Nat)) : Bool := r.all fun p => match p.1 with | [] => false | c :: _ => !Asm.nums.contains c

theorem Asm.bare_say {r : List (List UInt8 × Option Nat)} (h : Asm.marked r = true) (g : List Int) : Asm.bare (Asm.say r g) := by
  cases r with
  | nil => intro c x e; cases e
  | cons p r =>
    intro c x e
    simp only [Asm.marked, List.all_cons, Bool.and_eq_true] at h
    unfold Asm.say at e
    rw [List.flatMap_cons] at e
    unfold Asm.one at e
    obtain ⟨m, k⟩ := p
    cases m with
    | nil => simp at h
    | cons b m =>
      simp only [List.cons_append, List.cons.injEq] at e
      obtain ⟨rfl, -⟩ := e
      simpa using h.1

theorem Asm.run_say : ∀ (r : List (List UInt8 × Option Nat)) (g g0 : List Int), Asm.marked r = true → (∀ k, Asm.small (g.getD k 0)) →
    Asm.run r (Asm.say r g) g0 = some (Asm.fill r g0 g)
  | [], g, g0, _, _ => rfl
  | (m, none) :: r, g, g0, h, hs => by
    have hr : Asm.marked r = true := by simp only [Asm.marked, List.all_cons, Bool.and_eq_true] at h; exact h.2
    have e : Asm.say ((m, none) :: r) g = m ++ Asm.say r g := by unfold Asm.say; rw [List.flatMap_cons]; unfold Asm.one; simp
    rw [e, Asm.run, if_pos (by unfold Lib.hasPrefix; rw [List.isPrefixOf_iff_prefix]; exact List.prefix_append _ _), List.drop_left, Asm.run_say r g g0 hr hs]
    rfl
  | (m, some k) :: r, g, g0, h, hs => by
    have hr : Asm.marked r = true := by simp only [Asm.marked, List.all_cons, Bool.and_eq_true] at h; exact h.2
    have e : Asm.say ((m, some k) :: r) g = m ++ (Lib.itoa (g.getD k 0) ++ Asm.say r g) := by unfold Asm.say; rw [List.flatMap_cons]; unfold Asm.one; simp
    rw [e, Asm.run, if_pos (by unfold Lib.hasPrefix; rw [List.isPrefixOf_iff_prefix]; exact List.prefix_append _ _), List.drop_left, Asm.taken_itoa _ (hs k) _ (Asm.bare_say hr g)]
    simp only
    rw [Asm.run_say r g _ hr hs]
    rfl

theorem Asm.rounds_marked : ∀ f < 20, Asm.marked (Asm.rounds f) = true := by decide +kernel

/-- Which op has a name? -/
def Asm.named (nm : List UInt8) : Option Nat := (List.range 69).find? fun op => (Dec.name op).data.toList == nm

theorem Asm.named_name : ∀ op < 69, Asm.named (Dec.name op).data.toList = some op := by decide +kernel
theorem Asm.name_plain : ∀ op < 69, ∀ c ∈ (Dec.name op).data.toList, (c != 32) = true := by decide +kernel

def Asm.read (s : List UInt8) : Option (Nat × List Int) :=
  match Asm.named (s.takeWhile (· != 32)) with
  | none => none
  | some op => (Asm.run (Asm.rounds (Dec.fm op)) (s.drop (s.takeWhile (· != 32)).length) [0, 0, 0, 0, 0]).map fun g => (op, g)

theorem Asm.blank_first : ∀ f < 20, Asm.rounds f = [] ∨ ∃ m k r, Asm.rounds f = (32 :: m, k) :: r := by
  have : ∀ f < 20, (match Asm.rounds f with | [] => true | ((32 :: m), k) :: r => true | _ => false) = true := by decide +kernel
  intro f hf
  have h := this f hf
  cases hr : Asm.rounds f with
  | nil => exact Or.inl rfl
  | cons p r =>
    obtain ⟨m, k⟩ := p
    rw [hr] at h
    cases m with
    | nil => simp at h
    | cons c m =>
      by_cases hc : c = 32
      · subst hc; exact Or.inr ⟨m, k, r, rfl⟩
      · exfalso
        split at h
        · rename_i e; cases e
        · rename_i e; cases e; exact hc rfl
        · cases h

theorem Asm.cut_name : ∀ (l x : List UInt8), (∀ c ∈ l, (c != 32) = true) → (x = [] ∨ ∃ y, x = 32 :: y) → (l ++ x).takeWhile (· != 32) = l
  | [], x, _, hx => by
    rcases hx with rfl | ⟨y, rfl⟩
    · rfl
    · rfl
  | b :: l, x, hl, hx => by
    have hb := hl b List.mem_cons_self
    rw [List.cons_append, List.takeWhile_cons, hb, if_pos rfl, Asm.cut_name l x (fun c hc => hl c (List.mem_cons_of_mem _ hc)) hx]

theorem Asm.text_name (op : Nat) (h : op < 69) (g : List Int) : (Asm.text op g).takeWhile (· != 32) = (Dec.name op).data.toList := by
  refine Asm.cut_name _ _ (Asm.name_plain op h) ?_
  rcases Asm.blank_first _ (Dec.fm_lt op h).2 with e | ⟨m, k, r, e⟩
  · left; rw [e]; rfl
  · right
    rw [e]
    unfold Asm.say
    rw [List.flatMap_cons]
    exact ⟨_, rfl⟩

/-- A form's other numbers are noughts. -/
def Asm.full (f : Nat) (g : List Int) : Prop := Asm.fill (Asm.rounds f) [0, 0, 0, 0, 0] g = g ∧ ∀ k, Asm.small (g.getD k 0)

/-- What is printed is read as it was. -/
theorem Asm.read_text (op : Nat) (h : op < 69) (g : List Int) (hg : Asm.full (Dec.fm op) g) : Asm.read (Asm.text op g) = some (op, g) := by
  unfold Asm.read
  rw [Asm.text_name op h g, Asm.named_name op h]
  simp only
  unfold Asm.text
  rw [List.drop_left, Asm.run_say _ g _ (Asm.rounds_marked _ (Dec.fm_lt op h).2) hg.2, hg.1]
  rfl

end Go.Proofs.YtahbbhgoacbejaaGreatDoor
