/- Layer 18: a disk that is armed, beside one that is not. -/
import Derived.Test.YtkihjlmhidhjcaaDkCalm
namespace Go.Proofs.Ytkihjlmhidhjcaa
open Go.RowKit
set_option linter.unusedVariables false
set_option maxRecDepth 100000
set_option linter.unusedSimpArgs false

/-- The same disk, armed. -/
def armD (d : Dk) (A : Nat) (c : Crs) : Dk := ⟨d.S, d.L, A, c, false, d.m⟩

theorem arm_is {d : Dk} {n : Nat} (h : Calm d n) (k : Nat) (c : Crs) : d.errA (k : Int) = 0 ∧ d.armed (k : Int) c = armD d k c := by
  refine ⟨by unfold Dk.errA; rw [if_neg (by rw [h.dead]; decide), if_neg (by omega)], ?_⟩
  unfold Dk.armed
  rw [if_neg (by rw [h.dead]; simp)]
  unfold armD
  rw [Int.toNat_natCast, ← h.dead]

theorem arm_at {d : Dk} {n : Nat} (h : Calm d n) (A : Nat) (c : Crs) {k : Nat} (hk : k < n) : (armD d A c).errAt (k : Int) = 0 := by
  unfold Dk.errAt armD
  rw [if_neg (by simp), if_neg (by show ¬ ((k : Int) < 0 ∨ (d.S.length : Int) ≤ k); rw [h.len]; omega)]

theorem arm_write {d : Dk} {n : Nat} (h : Calm d n) (A : Nat) (c : Crs) {k : Nat} (hk : k < n) {s : ByteArray} (hs : s.size = 64) :
    (A = 1 → (armD d A c).errW (k : Int) s = 2 ∧ ((armD d A c).wrote (k : Int) s).dead = true) ∧
    (A ≠ 1 → (armD d A c).errW (k : Int) s = 0 ∧ (armD d A c).wrote (k : Int) s = armD (d.wrote (k : Int) s) (A - 1) c) := by
  have h0 := arm_at h A c hk
  have eW : (armD d A c).errW (k : Int) s = if A = 1 then 2 else 0 := by
    unfold Dk.errW
    rw [if_neg (by simp [h0]), if_neg (by simp [hs])]
    rfl
  have ew : (armD d A c).wrote (k : Int) s = Dk.stepped ⟨d.S, d.L ++ [(k, s)], A, c, false, d.m⟩ := by
    unfold Dk.wrote
    rw [if_neg (by simp [h0, hs]), Int.toNat_natCast]
    rfl
  refine ⟨fun hA => ?_, fun hA => ?_⟩
  · rw [eW, if_pos hA, ew]
    unfold Dk.stepped
    rw [if_pos hA]
    exact ⟨rfl, rfl⟩
  · rw [eW, if_neg hA, ew, (h.write hk hs).2.1]
    unfold Dk.stepped
    rw [if_neg hA]
    exact ⟨rfl, rfl⟩

theorem arm_flush {d : Dk} {n : Nat} (h : Calm d n) (A : Nat) (c : Crs) :
    (A = 1 → (armD d A c).errF = 2 ∧ (armD d A c).flush.dead = true) ∧ (A ≠ 1 → (armD d A c).errF = 0 ∧ (armD d A c).flush = armD d.flush (A - 1) c) := by
  refine ⟨fun hA => ⟨?_, ?_⟩, fun hA => ⟨?_, ?_⟩⟩
  · unfold Dk.errF armD; rw [if_pos (.inr hA)]
  · unfold Dk.flush armD
    rw [if_neg (by simp), if_pos hA]
    unfold Dk.stepped
    rw [if_pos hA]
    rfl
  · unfold Dk.errF armD; rw [if_neg (by simpa using hA)]
  · rw [h.flush.2.1]
    unfold Dk.flush armD
    rw [if_neg (by simp), if_neg hA]
    unfold Dk.stepped
    rw [if_neg hA]
    rfl

end Go.Proofs.Ytkihjlmhidhjcaa
