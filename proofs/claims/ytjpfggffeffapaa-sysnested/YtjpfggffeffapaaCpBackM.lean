/- Layer 8: what follows of the registers' rules: what is written twice is written once; exceptions within one another. -/
import Derived.Test.YtjpfggffeffapaaCpWalks3
namespace Go.Proofs.Ytjpfggffeffapaa
open Go.RowKit
set_option linter.unusedVariables false

theorem mix_same {x B : Int} (hx : W32 x) (hB : W32 B) : mixV x x B = x :=
  bit_ext (mix_w hB) hx fun i hi => by rw [bit_mix hB i hi]; split <;> rfl

theorem k7 : W32 7 := w_of _ (by omega) (by omega)
theorem kL : W32 4294967047 := w_of _ (by omega) (by omega)
theorem kS : W32 65299 := w_of _ (by omega) (by omega)
theorem kC : W32 768 := w_of _ (by omega) (by omega)
theorem kT : W32 32768 := w_of _ (by omega) (by omega)
theorem k2 : W32 2 := w_of _ (by omega) (by omega)
theorem kM : W32 2147483648 := w_of _ (by omega) (by omega)
theorem k124 : W32 124 := w_of _ (by omega) (by omega)
theorem kN : W32 31744 := w_of _ (by omega) (by omega)

theorem write_w {r : Regs} (hr : Wr r) (g : Int) {v : Int} (hv : W32 v) : Wr (writeV r g v) := by
  obtain ⟨h0, h1, h2, h3, h4, h5, h6, h7, h8⟩ := hr
  rcases reg_is g with rfl | rfl | rfl | rfl | rfl | rfl | rfl | rfl | rfl | h
  · exact ⟨mix_w k7, h1, h2, h3, h4, h5, h6, h7, h8⟩
  · exact ⟨h0, mix_w kL, h2, h3, h4, h5, h6, h7, h8⟩
  · exact ⟨h0, h1, h2, h3, h4, h5, h6, h7, h8⟩
  · exact ⟨h0, h1, h2, hv, h4, h5, h6, h7, h8⟩
  · exact ⟨h0, h1, h2, h3, hv, h5, h6, h7, h8⟩
  · exact ⟨h0, h1, h2, h3, h4, hv, h6, mix_w kT, h8⟩
  · exact ⟨h0, h1, h2, h3, h4, h5, mix_w kS, h7, h8⟩
  · exact ⟨h0, h1, h2, h3, h4, h5, h6, mix_w kC, h8⟩
  · exact ⟨h0, h1, h2, h3, h4, h5, h6, h7, hv⟩
  · rw [h.write]
    exact ⟨h0, h1, h2, h3, h4, h5, h6, h7, h8⟩

theorem read_w {r : Regs} (hr : Wr r) (g : Int) : W32 (readV r g) := by
  obtain ⟨h0, h1, h2, h3, h4, h5, h6, h7, h8⟩ := hr
  rcases reg_is g with rfl | rfl | rfl | rfl | rfl | rfl | rfl | rfl | rfl | h
  · exact h0
  · exact h1
  · exact h2
  · exact h3
  · exact h4
  · exact h5
  · exact h6
  · exact h7
  · exact h8
  · rw [h.read]
    exact w0

/-- Written twice is written once. -/
theorem write_twice (r : Regs) (g v : Int) : writeV (writeV r g v) g v = writeV r g v := by
  rcases reg_is g with rfl | rfl | rfl | rfl | rfl | rfl | rfl | rfl | rfl | h
  · simp [writeV, mix_mix k7]
  · simp [writeV, mix_mix kL]
  · simp [writeV]
  · simp [writeV]
  · simp [writeV]
  · simp [writeV, mix_mix kT]
  · simp [writeV, mix_mix kS]
  · simp [writeV, mix_mix kC]
  · simp [writeV]
  · rw [h.write, h.write]

/-- What was written and is read is written without a change. -/
theorem write_read {r : Regs} (hr : Wr r) (g : Int) {v : Int} (hv : W32 v) : writeV (writeV r g v) g (readV (writeV r g v) g) = writeV r g v := by
  rcases reg_is g with rfl | rfl | rfl | rfl | rfl | rfl | rfl | rfl | rfl | h
  · simp [writeV, readV, mix_same (mix_w k7) k7]
  · simp [writeV, readV, mix_same (mix_w kL) kL]
  · simp [writeV]
  · simp [writeV, readV]
  · simp [writeV, readV]
  · simp [writeV, readV, mix_mix kT]
  · simp [writeV, readV, mix_same (mix_w kS) kS]
  · simp [writeV, readV, mix_same (mix_w kC) kC]
  · simp [writeV, readV]
  · rw [h.write, h.write]

/-- Where an exception was. -/
def wantV (pc : Int) (d : Bool) : Int := if d then (pc - 4) % 4294967296 else pc

theorem want_w {pc : Int} (hp : W32 pc) (d : Bool) : W32 (wantV pc d) := by
  unfold wantV
  cases d
  · exact hp
  · exact w_of _ (by simp; omega) (by simp; omega)

theorem raise_w {r : Regs} (hr : Wr r) (code : Int) (f : Bool) {pc : Int} (hp : W32 pc) (d : Bool) : Wr (raiseV r code f pc d) := by
  obtain ⟨h0, h1, h2, h3, h4, h5, h6, h7, h8⟩ := hr
  unfold raiseV
  split
  · exact ⟨h0, h1, h2, h3, h4, h5, mix_w k2, mix_w k124, h8⟩
  · exact ⟨h0, h1, h2, h3, h4, h5, mix_w k2, mix_w k124, want_w hp d⟩

theorem bit_2 : bit 2 1 = true := by decide +kernel

/-- Behind an exception the bit of exceptions stands. -/
theorem raised {r : Regs} (code : Int) (f : Bool) (pc : Int) (d : Bool) : (raiseV r code f pc d).s = mixV r.s 2 2 ∧ bit (raiseV r code f pc d).s 1 = true := by
  have e : (raiseV r code f pc d).s = mixV r.s 2 2 := by unfold raiseV; split <;> rfl
  refine ⟨e, ?_⟩
  rw [e, bit_mix k2 1 (by omega), bit_2]
  rfl

/-- Ahead of the first exception it does not. -/
theorem cleared (s : Int) : bit (mixV s 0 2) 1 = false := by
  rw [bit_mix k2 1 (by omega), bit_2, bit_zero]
  rfl

theorem raise_first {r : Regs} (h : bit r.s 1 = false) (code : Int) (f : Bool) (pc : Int) (d : Bool) :
    (raiseV r code f pc d).e = wantV pc d ∧ (raiseV r code f pc d).c = mixV (mixV r.c (if d then 2147483648 else 0) 2147483648) (code % 4294967296 * 4 % 4294967296) 124 ∧ toV r f = if f then 2147483648 else 2147484032 := by
  simp [raiseV, toV, h, wantV]

theorem raise_within {r : Regs} (h : bit r.s 1 = true) (code : Int) (f : Bool) (pc : Int) (d : Bool) :
    (raiseV r code f pc d).e = r.e ∧ toV r f = 2147484032 := by
  simp [raiseV, toV, h]

/-- The highest bit of a word. -/
theorem top_is {a : Int} (ha : W32 a) : a / 2147483648 = if bit a 31 then 1 else 0 := by
  have h := bit_is ha.1 31
  have e : ((2 : Int) ^ 31) = 2147483648 := by decide
  rw [e] at h
  obtain ⟨a0, a1⟩ := ha
  cases hb : bit a 31
  · rw [hb] at h; simp at h ⊢; omega
  · rw [hb] at h; simp at h ⊢; omega

theorem delay_top {c : Int} (Y : Int) (d : Bool) : mixV (mixV c (if d then 2147483648 else 0) 2147483648) Y 124 / 2147483648 = if d then 1 else 0 := by
  rw [top_is (mix_w k124), bit_mix k124 31 (by omega), bit_mix kM 31 (by omega), show bit 124 31 = false by decide +kernel, show bit 2147483648 31 = true by decide +kernel]
  cases d
  · simp [bit_zero]
  · simp [show bit 2147483648 31 = true by decide +kernel]

end Go.Proofs.Ytjpfggffeffapaa
