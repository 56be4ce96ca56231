/- Layer 13: what a step counts; what a user's program leaves as it was. -/
import Derived.Test.YthjcijlabpinkaaGreatDoorQCuStepM
namespace Go.Proofs.YthjcijlabpinkaaGreatDoor
open Go.RowKit
set_option linter.unusedVariables false
set_option maxRecDepth 100000
set_option linter.unusedSimpArgs false

theorem pl_true {c : Cs} {a z : Int} {wr : Bool} (h : (plV c a z wr).2.2 = true) : (whereV c a wr).2.1 = -1 ∧ (plV c a z wr).1 = (whereV c a wr).1 := by
  unfold plV at h ⊢
  split at h
  · cases h
  split at h
  · rename_i h1 h2
    rw [if_neg h1, if_pos h2]
    exact ⟨h2, rfl⟩
  · cases h

theorem ft_true {n : Nat} {c : Cs} {B : Nat → Nat} (h : (ftV n c B).2.2 = true) : (whereV c c.pc false).2.1 = -1 ∧ mayI n (whereV c c.pc false).1 4 ∧ (decV (memX n B (whereV c c.pc false).1 4)).e = 0 ∧
    ¬ (sysOp (decV (memX n B (whereV c c.pc false).1 4)).o = true ∧ Cp.userV c.C = true) ∧ (ftV n c B).1 = decV (memX n B (whereV c c.pc false).1 4) := by
  unfold ftV at h ⊢
  split at h
  · cases h
  rename_i h1
  obtain ⟨p1, p2⟩ := pl_true (c := c) (a := c.pc) (z := 4) (wr := false) (by simpa using h1)
  rw [if_neg h1]
  rw [p2] at h ⊢
  split at h
  · cases h
  rename_i h2
  rw [if_neg h2]
  split at h
  · cases h
  rename_i h3
  rw [if_neg h3]
  exact ⟨p1, by simpa using h2, Classical.byContradiction fun e => h3 (Or.inl e), fun e => h3 (Or.inr e), rfl⟩

theorem where_tick (n : Nat) (m : Mc) (a : Int) (wr : Bool) : whereV (tickM n m).c a wr = whereV m.c a wr := rfl

/-- A step is counted, but where the count itself is written. -/
theorem step_count (n : Nat) (m : Mc) : (stepM n m).c.C.n = (m.c.C.n + 1) % 4294967296 ∨
    ((whereV m.c m.c.pc false).2.1 = -1 ∧ mayI n (whereV m.c m.c.pc false).1 4 ∧ (decV (memX n (stepM n m).B (whereV m.c m.c.pc false).1 4)).e = 0 ∧ (decV (memX n (stepM n m).B (whereV m.c m.c.pc false).1 4)).o = 54 ∧
      (decV (memX n (stepM n m).B (whereV m.c m.c.pc false).1 4)).d = 9 ∧ (stepM n m).c.C.n = m.c.R (decV (memX n (stepM n m).B (whereV m.c m.c.pc false).1 4)).t.toNat) := by
  have e0 : (tickM n m).c.C.n = (m.c.C.n + 1) % 4294967296 := rfl
  unfold stepM
  rcases rest_ways n (tickM n m) with ⟨f, e⟩ | ⟨-, e⟩ | ⟨h, e⟩
  · rw [e]; exact Or.inl (fault_is _ _).2.2.2.2.2
  · rw [e]
    left
    show (linkV (tickM n m).c _).C.n = _
    rw [(link_kin _ _).2.C]; rfl
  · rw [e]
    rcases do_n n (tickM n m) (ftV n (tickM n m).c (tickM n m).B).1 with k | ⟨k1, k2, k3, k4⟩
    · exact Or.inl k
    · right
      obtain ⟨f1, f2, f3, f4, f5⟩ := ft_true h
      show _ ∧ _ ∧ (decV (memX n (doM n (tickM n m) (ftV n (tickM n m).c (tickM n m).B).1).m.B _ 4)).e = 0 ∧ (decV (memX n (doM n (tickM n m) (ftV n (tickM n m).c (tickM n m).B).1).m.B _ 4)).o = 54 ∧
        (decV (memX n (doM n (tickM n m) (ftV n (tickM n m).c (tickM n m).B).1).m.B _ 4)).d = 9 ∧ (doM n (tickM n m) (ftV n (tickM n m).c (tickM n m).B).1).m.c.C.n = _
      rw [k4]
      have f6 : (ftV n (tickM n m).c (tickM n m).B).1 = decV (memX n (tickM n m).B (whereV m.c m.c.pc false).1 4) := f5
      rw [f6] at k1 k2 k3 ⊢
      exact ⟨f1, f2, f3, k1, k2, k3⟩

theorem sys_range : ∀ k < 69, sysOp ((k : Nat) : Int) = true ∨ ¬ (53 ≤ k ∧ k ≤ 58) := by decide +kernel

theorem sys_of {o : Int} (h : 53 ≤ o ∧ o ≤ 58) : sysOp o = true := by
  obtain ⟨k, rfl⟩ := Int.eq_ofNat_of_zero_le (show 0 ≤ o by omega)
  rcases sys_range k (by omega) with e | e
  · exact e
  · exact absurd ⟨by omega, by omega⟩ e

/-- A fault within a user's program. -/
theorem fault_user (c : Cs) (f : Ft) (h1 : Cp.bit c.C.s 1 = false) : (faultC c f).C.p = c.C.p ∧ (faultC c f).C.i = c.C.i ∧ (faultC c f).C.s = Cp.mixV c.C.s 2 2 ∧ ((faultC c f).C.e = c.pc ∨ c.dl = true ∧ (faultC c f).C.e = (c.pc - 4) % 4294967296) := by
  have hb : (badC c f).C.p = c.C.p ∧ (badC c f).C.i = c.C.i ∧ (badC c f).C.s = c.C.s := by unfold badC; split <;> exact ⟨rfl, rfl, rfl⟩
  have e : (faultC c f).C = Cp.raiseV (badC c f).C f.code f.rf c.pc c.dl := rfl
  rw [e]
  unfold Cp.raiseV
  rw [if_neg (by rw [hb.2.2, h1]; simp)]
  refine ⟨hb.1, hb.2.1, by show Cp.mixV (badC c f).C.s 2 2 = _; rw [hb.2.2], ?_⟩
  show (if c.dl = true then (c.pc - 4) % 4294967296 else c.pc) = _ ∨ _ ∧ (if c.dl = true then (c.pc - 4) % 4294967296 else c.pc) = _
  cases c.dl
  · exact Or.inl rfl
  · exact Or.inr ⟨rfl, rfl⟩

theorem step_user (n : Nat) (m : Mc) (h0 : Cp.bit m.c.C.s 0 = false) (h1 : Cp.bit m.c.C.s 1 = false) (h4 : Cp.bit m.c.C.s 4 = true) :
    (stepM n m).c.T = m.c.T ∧ (stepM n m).c.C.p = m.c.C.p ∧ (stepM n m).c.C.i = m.c.C.i ∧
    (((stepM n m).c.C.s = Cp.mixV m.c.C.s 2 2 ∧ ((stepM n m).c.pc = 2147484032 ∨ (stepM n m).c.pc = 2147483648) ∧ ((stepM n m).c.C.e = m.c.pc ∨ m.c.dl = true ∧ (stepM n m).c.C.e = (m.c.pc - 4) % 4294967296) ∧ (stepM n m).c.R = m.c.R) ∨
      ((stepM n m).c.C.s = m.c.C.s ∧ (stepM n m).c.C.e = m.c.C.e ∧ (stepM n m).c.C.b = m.c.C.b)) := by
  have hu : Cp.userV (tickM n m).c.C = true := by
    show (Cp.bit m.c.C.s 4 && !Cp.bit m.c.C.s 1) = true
    rw [h4, h1]; rfl
  unfold stepM
  rcases rest_ways n (tickM n m) with ⟨f, e⟩ | ⟨-, e⟩ | ⟨h, e⟩
  · rw [e]
    obtain ⟨k1, k2, -, -, k5, -⟩ := fault_is (tickM n m).c f
    obtain ⟨u1, u2, u3, u4⟩ := fault_user (tickM n m).c f h1
    exact ⟨k2, u1, u2, Or.inl ⟨u3, k5, u4, k1⟩⟩
  · rw [e]
    have k := (link_kin (tickM n m).c (ftV n (tickM n m).c (tickM n m).B).1).2
    refine ⟨k.T, ?_, ?_, Or.inr ⟨?_, ?_, ?_⟩⟩
    · show (linkV (tickM n m).c _).C.p = _; rw [k.C]; rfl
    · show (linkV (tickM n m).c _).C.i = _; rw [k.C]; rfl
    · show (linkV (tickM n m).c _).C.s = _; rw [k.C]; rfl
    · show (linkV (tickM n m).c _).C.e = _; rw [k.C]; rfl
    · show (linkV (tickM n m).c _).C.b = _; rw [k.C]; rfl
  · rw [e]
    obtain ⟨f1, f2, f3, f4, f5⟩ := ft_true h
    rw [← f5] at f4
    have k := do_kin n (tickM n m) (ftV n (tickM n m).c (tickM n m).B).1 (fun e => f4 ⟨sys_of e, hu⟩)
    refine ⟨k.T, ?_, ?_, Or.inr ⟨?_, ?_, ?_⟩⟩
    · show (doM n (tickM n m) _).m.c.C.p = _; rw [k.C]; rfl
    · show (doM n (tickM n m) _).m.c.C.i = _; rw [k.C]; rfl
    · show (doM n (tickM n m) _).m.c.C.s = _; rw [k.C]; rfl
    · show (doM n (tickM n m) _).m.c.C.e = _; rw [k.C]; rfl
    · show (doM n (tickM n m) _).m.c.C.b = _; rw [k.C]; rfl

end Go.Proofs.YthjcijlabpinkaaGreatDoor
