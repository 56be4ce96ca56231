/- An instruction that may be is the one that its text is read as, and no other one has that text. -/
import Derived.Test.YtahbbhgoacbejaaGreatDoorAsmPlain
import Derived.Test.YtahbbhgoacbejaaGreatDoorDecMath
import Derived.Test.YtahbbhgoacbejaaGreatDoorDecWalks5
set_option linter.unusedVariables false
set_option linter.unusedSimpArgs false
namespace Go.Proofs.YtahbbhgoacbejaaGreatDoor
open Go

theorem Asm.good_in {op : Nat} {s t d a i : Int} (ho : op < 69) (h : Good op s t d a i) :
    (0 ≤ s ∧ s ≤ 31 ∧ (HasS (Dec.fm op) = false → s = 0)) ∧ (0 ≤ t ∧ t ≤ 31 ∧ (HasT (Dec.fm op) = false → t = 0)) ∧ (0 ≤ d ∧ d ≤ 31 ∧ (HasD (Dec.fm op) = false → d = 0)) ∧
      (0 ≤ a ∧ a ≤ 31 ∧ (HasA (Dec.fm op) = false → a = 0)) ∧ ImmOk (Dec.fm op) i := by
  have h' := h
  obtain ⟨e1, e2, e3, e4, e5⟩ := h
  have k1 : Dec.ds op (Dec.laid op s t d a i) < 32 := Nat.mod_lt _ (by decide)
  have k2 : Dec.dt op (Dec.laid op s t d a i) < 32 := Nat.mod_lt _ (by decide)
  have k3 : Dec.dd op (Dec.laid op s t d a i) < 32 := Nat.mod_lt _ (by decide)
  have k4 : Dec.da op (Dec.laid op s t d a i) < 32 := Nat.mod_lt _ (by decide)
  obtain ⟨s', rfl⟩ : ∃ s' : Nat, s = s' := ⟨_, e1.symm⟩
  obtain ⟨t', rfl⟩ : ∃ t' : Nat, t = t' := ⟨_, e2.symm⟩
  obtain ⟨d', rfl⟩ : ∃ d' : Nat, d = d' := ⟨_, e3.symm⟩
  obtain ⟨a', rfl⟩ : ∃ a' : Nat, a = a' := ⟨_, e4.symm⟩
  obtain ⟨x1, x2, x3, x4, -⟩ := drawn_laid op ho s' t' d' a' (by omega) (by omega) (by omega) (by omega) i
  have x5 := (di_laid op ho s' t' d' a' (by omega) (by omega) (by omega) (by omega) i).mp e5
  refine ⟨⟨by omega, by omega, fun q => ?_⟩, ⟨by omega, by omega, fun q => ?_⟩, ⟨by omega, by omega, fun q => ?_⟩, ⟨by omega, by omega, fun q => ?_⟩, x5⟩
  · rw [q] at x1; simp at x1; omega
  · rw [q] at x2; simp at x2; omega
  · rw [q] at x3; simp at x3; omega
  · rw [q] at x4; simp at x4; omega

theorem Asm.imm_in {f : Nat} {i : Int} (h : ImmOk f i) : -32768 ≤ i ∧ i ≤ 67108863 := by
  unfold ImmOk at h
  split at h
  · omega
  · split at h
    · omega
    · split at h <;> omega

theorem Asm.getD_small {s t d a i : Int} (h1 : Asm.small s) (h2 : Asm.small t) (h3 : Asm.small d) (h4 : Asm.small a) (h5 : Asm.small i) : ∀ k, Asm.small (([s, t, d, a, i] : List Int).getD k 0)
  | 0 => h1
  | 1 => h2
  | 2 => h3
  | 3 => h4
  | 4 => h5
  | k + 5 => by simp [Asm.small]

theorem Asm.full_good {op : Nat} {s t d a i : Int} (ho : op < 69) (h : Good op s t d a i) : Asm.full (Dec.fm op) [s, t, d, a, i] := by
  obtain ⟨⟨s0, s1, s2⟩, ⟨t0, t1, t2⟩, ⟨d0, d1, d2⟩, ⟨a0, a1, a2⟩, hi⟩ := Asm.good_in ho h
  have hi2 := Asm.imm_in hi
  refine ⟨?_, Asm.getD_small ⟨by omega, by omega⟩ ⟨by omega, by omega⟩ ⟨by omega, by omega⟩ ⟨by omega, by omega⟩ ⟨by omega, by omega⟩⟩
  have hr := Dec.fm_lt op ho
  unfold ImmOk at hi
  clear h hi2
  generalize Dec.fm op = f at *
  have hcases : f = 1 ∨ f = 2 ∨ f = 3 ∨ f = 4 ∨ f = 5 ∨ f = 6 ∨ f = 7 ∨ f = 8 ∨ f = 9 ∨ f = 10 ∨ f = 11 ∨ f = 12 ∨ f = 13 ∨ f = 14 ∨ f = 15 ∨ f = 16 ∨ f = 17 ∨ f = 18 ∨ f = 19 := by omega
  rcases hcases with rfl | rfl | rfl | rfl | rfl | rfl | rfl | rfl | rfl | rfl | rfl | rfl | rfl | rfl | rfl | rfl | rfl | rfl | rfl
  all_goals
    simp [HasS, HasT, HasD, HasA] at s2 t2 d2 a2 hi
    simp [Asm.fill, Asm.rounds, *]

/-- Two instructions that may be have one text just if they are one. -/
theorem Asm.text_once {op op' : Nat} {s t d a i s' t' d' a' i' : Int} (ho : op < 69) (ho' : op' < 69) (h : Good op s t d a i) (h' : Good op' s' t' d' a' i')
    (e : Asm.text op [s, t, d, a, i] = Asm.text op' [s', t', d', a', i']) : op = op' ∧ s = s' ∧ t = t' ∧ d = d' ∧ a = a' ∧ i = i' := by
  have r1 := Asm.read_text op ho _ (Asm.full_good ho h)
  have r2 := Asm.read_text op' ho' _ (Asm.full_good ho' h')
  rw [e, r2] at r1
  simp at r1
  omega

/-- An instruction's text; or that it may not be. -/
def Asm.Said (o s t d a i : Int) (x : List UInt8) (e : Int) : Prop :=
  (∃ op, op < 69 ∧ o = ((op : Nat) : Int) ∧ Good op s t d a i ∧ x = Asm.text op [s, t, d, a, i] ∧ e = 0) ∨
    ((∀ op, op < 69 → o = ((op : Nat) : Int) → ¬ Good op s t d a i) ∧ x = [] ∧ e = 50)

/-- The instruction whose text it is; or that there is none. -/
def Asm.Got (x : List UInt8) (o s t d a i e : Int) : Prop :=
  (∃ op, op < 69 ∧ o = ((op : Nat) : Int) ∧ Good op s t d a i ∧ x = Asm.text op [s, t, d, a, i] ∧ e = 0) ∨
    ((∀ op s t d a i, op < 69 → Good op s t d a i → x ≠ Asm.text op [s, t, d, a, i]) ∧ o = 0 ∧ s = 0 ∧ t = 0 ∧ d = 0 ∧ a = 0 ∧ i = 0 ∧ e = 50)

theorem Asm.Got.one {x : List UInt8} {o s t d a i e o' s' t' d' a' i' e' : Int} (h : Asm.Got x o s t d a i e) (h' : Asm.Got x o' s' t' d' a' i' e') :
    o = o' ∧ s = s' ∧ t = t' ∧ d = d' ∧ a = a' ∧ i = i' ∧ e = e' := by
  rcases h with ⟨op, ho, rfl, hg, hx, rfl⟩ | ⟨hn, rfl, rfl, rfl, rfl, rfl, rfl, rfl⟩
  · rcases h' with ⟨op', ho', rfl, hg', hx', rfl⟩ | ⟨hn', -⟩
    · obtain ⟨rfl, rfl, rfl, rfl, rfl, rfl⟩ := Asm.text_once ho ho' hg hg' (hx.symm.trans hx')
      exact ⟨rfl, rfl, rfl, rfl, rfl, rfl, rfl⟩
    · exact absurd hx (hn' op _ _ _ _ _ ho hg)
  · rcases h' with ⟨op', ho', rfl, hg', hx', rfl⟩ | ⟨hn', rfl, rfl, rfl, rfl, rfl, rfl, rfl⟩
    · exact absurd hx' (hn op' _ _ _ _ _ ho' hg')
    · exact ⟨rfl, rfl, rfl, rfl, rfl, rfl, rfl⟩

end Go.Proofs.YtahbbhgoacbejaaGreatDoor
