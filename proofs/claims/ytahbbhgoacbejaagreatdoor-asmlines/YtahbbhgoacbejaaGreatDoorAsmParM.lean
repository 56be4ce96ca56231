/- What the document's reader of a line tells, op by op: the numbers of a text, poured into the form's fields, are the fields of the one instruction that has the text. -/
import Derived.Test.YtahbbhgoacbejaaGreatDoorAsmNumM
import Derived.Test.YtahbbhgoacbejaaGreatDoorAsmGood
set_option linter.unusedVariables false
set_option linter.unusedSimpArgs false
namespace Go.Proofs.YtahbbhgoacbejaaGreatDoor
open Go

/-- Numbers, poured into the fields that a form has. -/
def Asm.pour : List (List UInt8 × Option Nat) → List Int → List Int → List Int
  | [], _, g => g
  | (_, none) :: r, x, g => Asm.pour r x g
  | (_, some k) :: r, x, g => Asm.pour r x.tail (g.set k (x.headD 0))

theorem Asm.pour_vals : ∀ (r : List (List UInt8 × Option Nat)) (g0 g x : List Int), Asm.pour r (Asm.vals r g ++ x) g0 = Asm.fill r g0 g
  | [], g0, g, x => rfl
  | (m, none) :: r, g0, g, x => by
    have e : Asm.vals ((m, none) :: r) g = Asm.vals r g := by simp [Asm.vals]
    rw [e, Asm.pour, Asm.pour_vals r g0 g x]
    rfl
  | (m, some k) :: r, g0, g, x => by
    have e : Asm.vals ((m, some k) :: r) g = g.getD k 0 :: Asm.vals r g := by simp [Asm.vals]
    rw [e, Asm.pour, List.cons_append, List.tail_cons, Asm.pour_vals r _ g x]
    rfl

/-- A text's numbers, behind its name; and noughts behind them. -/
def Asm.numsOf (x : List UInt8) : List Int := Asm.numsF (x.drop (x.takeWhile (· != 32)).length) false ++ [0, 0, 0]

theorem Asm.getD_in {s t d a i : Int} (h1 : -100000000 < s ∧ s < 100000000) (h2 : -100000000 < t ∧ t < 100000000) (h3 : -100000000 < d ∧ d < 100000000) (h4 : -100000000 < a ∧ a < 100000000) (h5 : -100000000 < i ∧ i < 100000000) :
    ∀ k, -100000000 < ([s, t, d, a, i] : List Int).getD k 0 ∧ ([s, t, d, a, i] : List Int).getD k 0 < 100000000
  | 0 => h1
  | 1 => h2
  | 2 => h3
  | 3 => h4
  | 4 => h5
  | k + 5 => by simp

theorem Asm.drawn_text {op : Nat} {s t d a i : Int} (ho : op < 69) (h : Good op s t d a i) :
    Asm.pour (Asm.rounds (Dec.fm op)) (Asm.numsOf (Asm.text op [s, t, d, a, i])) [0, 0, 0, 0, 0] = [s, t, d, a, i] := by
  obtain ⟨⟨s0, s1, -⟩, ⟨t0, t1, -⟩, ⟨d0, d1, -⟩, ⟨a0, a1, -⟩, hi⟩ := Asm.good_in ho h
  have hi2 := Asm.imm_in hi
  unfold Asm.numsOf
  rw [Asm.text_name op ho]
  unfold Asm.text
  rw [List.drop_left, Asm.numsF_say _ _ (Asm.rounds_markd _ (Dec.fm_lt op ho).2) (Asm.getD_in ⟨by omega, by omega⟩ ⟨by omega, by omega⟩ ⟨by omega, by omega⟩ ⟨by omega, by omega⟩ ⟨by omega, by omega⟩) false (Or.inr rfl), Asm.pour_vals]
  exact (Asm.full_good ho h).1

/-- No instruction of the first ops has the text. -/
def Asm.NoneTill (x : List UInt8) (k : Nat) : Prop := ∀ op s t d a i, op < k → op < 69 → Good op s t d a i → x ≠ Asm.text op [s, t, d, a, i]

theorem Asm.NoneTill.zero (x : List UInt8) : Asm.NoneTill x 0 := fun op _ _ _ _ _ h => by omega

theorem Asm.NoneTill.named {x : List UInt8} {k : Nat} (h : Asm.NoneTill x k) (hk : (Dec.name k).data.toList ≠ x.takeWhile (· != 32)) : Asm.NoneTill x (k + 1) := by
  intro op s t d a i ho h69 hg e
  by_cases hok : op = k
  · subst hok
    rw [e, Asm.text_name op h69] at hk
    exact hk rfl
  · exact h op s t d a i (by omega) h69 hg e

theorem Asm.NoneTill.printed {x y : List UInt8} {k : Nat} {s t d a i e : Int} (h : Asm.NoneTill x k) (hp : Asm.pour (Asm.rounds (Dec.fm k)) (Asm.numsOf x) [0, 0, 0, 0, 0] = [s, t, d, a, i])
    (hs : Asm.Said (k : Nat) s t d a i y e) (hn : ¬ (e = 0 ∧ y = x)) : Asm.NoneTill x (k + 1) := by
  intro op s' t' d' a' i' ho h69 hg ex
  by_cases hok : op = k
  · subst hok
    have hd := Asm.drawn_text h69 hg
    rw [← ex, hp] at hd
    simp at hd
    obtain ⟨rfl, rfl, rfl, rfl, rfl⟩ := hd
    rcases hs with ⟨op', ho', e1, hg', rfl, rfl⟩ | ⟨hno, -, -⟩
    · obtain rfl : op = op' := by omega
      exact hn ⟨rfl, ex.symm⟩
    · exact hno op h69 rfl hg
  · exact h op _ _ _ _ _ (by omega) h69 hg ex

theorem Asm.Got.printed {x y : List UInt8} {k : Nat} {s t d a i e : Int} (hs : Asm.Said (k : Nat) s t d a i y e) (he : e = 0) (hy : y = x) : Asm.Got x (k : Nat) s t d a i 0 := by
  rcases hs with ⟨op', ho', e1, hg', rfl, -⟩ | ⟨-, -, h5⟩
  · obtain rfl : k = op' := by omega
    exact Or.inl ⟨k, ho', rfl, hg', hy.symm, rfl⟩
  · omega

theorem Asm.Got.none_ {x : List UInt8} (h : Asm.NoneTill x 69) : Asm.Got x 0 0 0 0 0 0 50 :=
  Or.inr ⟨fun op s t d a i ho hg => h op s t d a i ho ho hg, rfl, rfl, rfl, rfl, rfl, rfl, rfl⟩

end Go.Proofs.YtahbbhgoacbejaaGreatDoor
