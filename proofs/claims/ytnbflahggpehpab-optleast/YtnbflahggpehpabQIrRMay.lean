/- Layer 14: the document's May. -/
import Derived.Test.YtnbflahggpehpabQIrMay
namespace Go.Proofs.Ytnbflahggpehpab.Ir
open Go.RowKit
set_option linter.unusedVariables false
set_option maxRecDepth 100000
set_option linter.unusedSimpArgs false

theorem rreg_any (n : Int) (w : World) : Calls Try.prog 27 #[.int .i64 n] w fun e w' => e = .returned (.bool (oprB n)) ∧ w' = w := by
  unfold oprB
  by_cases h : 0 ≤ n
  · have hd : decide (0 ≤ n) = true := by simpa using h
    by_cases k : n ≤ 32
    · have kd : decide (n ≤ 32) = true := by simpa using k
      have kd' : decide (n < 33) = true := by simp; omega
      rw [hd, kd']
      go_enter Try.func27, Try.ntmps27
      go_wp2
      go_ret
      exact ⟨rfl, rfl⟩
    · have kd : decide (n ≤ 32) = false := by simpa using k
      have kd' : decide (n < 33) = false := by simp; omega
      rw [hd, kd']
      go_enter Try.func27, Try.ntmps27
      go_wp2
      go_ret
      exact ⟨rfl, rfl⟩
  · have hd : decide (0 ≤ n) = false := by simpa using h
    rw [hd]
    go_enter Try.func27, Try.ntmps27
    go_wp2
    go_ret
    exact ⟨rfl, rfl⟩

def ok1 (f : Bool) (p : Int) (m : Mi) : Bool := decide (0 ≤ m.k) && (decide (m.k ≤ 13) && (decide (0 ≤ m.c) && (decide (m.c ≤ 16) && (f || decide (p ≤ m.c)))))
def ok2 (O : Bool) (m : Mi) : Bool := if m.m = 0 then O else O && (m.k == 1 || m.a == 32 || m.b == 32)
def ok3 (O : Bool) (m : Mi) : Bool :=
  if m.k = 0 then O && (m.d == 0 && (m.a == 0 && m.b == 0)) else if m.k = 1 then O && (decide (1 ≤ m.d) && (decide (m.d ≤ 31) && (m.a == 0 && m.b == 0)))
  else if m.k = 2 then O && (decide (1 ≤ m.d) && (decide (m.d ≤ 31) && (oprB m.a && m.b == 0))) else O && (decide (1 ≤ m.d) && (decide (m.d ≤ 31) && (oprB m.a && oprB m.b)))

theorem ok_is (f : Bool) (p q : Int) (m : Mi) (h : (f = true ∧ q = 0) ∨ (f = false ∧ q = p ∧ 0 ≤ p)) : ok3 (ok2 (ok1 f p m) m) m = (decide (q ≤ m.c) && (decide (m.c ≤ 16) && soundB m)) := by
  have e1 : ok1 f p m = (decide (0 ≤ m.k) && (decide (m.k ≤ 13) && (decide (q ≤ m.c) && decide (m.c ≤ 16)))) := by
    unfold ok1
    rw [Bool.eq_iff_iff]
    rcases h with ⟨rfl, rfl⟩ | ⟨rfl, rfl, hp⟩
    · simp
    · simp only [Bool.and_eq_true, decide_eq_true_eq, Bool.false_or]; omega
  rw [e1]
  obtain ⟨k, d, a, b, mm, c⟩ := m
  simp only [ok3, ok2, soundB, oprB]
  clear e1 h
  rw [Bool.eq_iff_iff]
  by_cases h0 : k = 0
  · subst h0
    by_cases hm : mm = 0
    · subst hm; simp; omega
    · simp [hm]; omega
  · rw [if_neg h0, if_neg h0]
    by_cases hw : 0 < k ∧ k < 14 ∧ 0 < d ∧ d < 32
    · have hW : wrB ⟨k, d, a, b, mm, c⟩ = true := by simp [wrB]; omega
      simp only [hW, Bool.true_eq_false, if_false]
      by_cases h1 : k = 1
      · subst h1
        by_cases hm : mm = 0
        · subst hm; simp; omega
        · simp [hm]; omega
      · rw [if_neg h1, if_neg h1]
        by_cases h2 : k = 2
        · subst h2
          by_cases hb : b = 0
          · subst hb
            by_cases hm : mm = 0
            · subst hm; simp; omega
            · simp [hm]; omega
          · by_cases hm : mm = 0
            · subst hm; simp [hb]
            · simp [hm, hb]
        · rw [if_neg h2, if_neg (show ¬ (k = 2 ∧ ¬ b = 0) from fun h => h2 h.1)]
          by_cases hm : mm = 0
          · subst hm; simp; omega
          · simp [hm, h1]; omega
    · have hW : wrB ⟨k, d, a, b, mm, c⟩ = false := by rw [Bool.eq_false_iff]; simp [wrB]; omega
      simp only [hW, if_true]
      by_cases h1 : k = 1
      · subst h1
        by_cases hm : mm = 0
        · subst hm; simp; omega
        · simp [hm]; omega
      · rw [if_neg h1]
        by_cases h2 : k = 2
        · subst h2
          by_cases hm : mm = 0
          · subst hm; simp; omega
          · simp [hm]; omega
        · rw [if_neg h2]
          by_cases hm : mm = 0
          · subst hm; simp; omega
          · simp [hm]; omega

end Go.Proofs.Ytnbflahggpehpab.Ir
