/- Layer 11: contracts of the number of four bytes and of the state of bytes, the program's. -/
import Derived.Test.YtmegghgjllbamaaGreatDoorQDmText
namespace Go.Proofs.YtmegghgjllbamaaGreatDoor.Dm
open Go.RowKit
set_option linter.unusedVariables false
set_option maxRecDepth 100000

theorem or_step {a b c : Nat} (k : Nat) (hb : b < 2 ^ k) (ha : a * 2 ^ k < 4294967296) (hc : c = 2 ^ k) (hb' : b < 4294967296) : bits .or .u32 ((a : Int) * (c : Int)) (b : Int) = (a : Int) * (c : Int) + b := by
  subst hc
  have h0 : ((a : Int) * ((2 ^ k : Nat) : Int)) = ((a * 2 ^ k : Nat) : Int) := by simp
  rw [h0]
  generalize hm : a * 2 ^ k = m at *
  rw [u32_or (m : Int) (b : Int) (by omega) (by omega) (by omega) (by omega)]
  rw [Int.toNat_natCast, Int.toNat_natCast]
  have := Nat.shiftLeft_add_eq_or_of_lt hb a
  rw [Nat.shiftLeft_eq, hm] at this
  rw [← this]
  omega

/-- The number of four bytes. -/
def be (b0 b1 b2 b3 : Nat) : Nat := ((b0 * 256 + b1) * 256 + b2) * 256 + b3

theorem ors (b0 b1 b2 b3 : Nat) (h0 : b0 < 256) (h1 : b1 < 256) (h2 : b2 < 256) (h3 : b3 < 256) :
    ∃ x y : Int, bits .or .u32 ((b0 : Int) * 16777216) ((b1 : Int) * 65536) = x ∧ bits .or .u32 x ((b2 : Int) * 256) = y ∧ bits .or .u32 y (b3 : Int) = (be b0 b1 b2 b3 : Nat) := by
  have q1 : ((b1 * 65536 : Nat) : Int) = (b1 : Int) * 65536 := Int.natCast_mul _ _
  have q2 : ((b2 * 256 : Nat) : Int) = (b2 : Int) * 256 := Int.natCast_mul _ _
  have e1 := or_step (a := b0) (b := b1 * 65536) (c := 16777216) 24 (by omega) (by omega) rfl (by omega)
  have e2 := or_step (a := b0 * 256 + b1) (b := b2 * 256) (c := 65536) 16 (by omega) (by omega) rfl (by omega)
  have e3 := or_step (a := (b0 * 256 + b1) * 256 + b2) (b := b3) (c := 256) 8 (by omega) (by omega) rfl (by omega)
  refine ⟨_, _, rfl, rfl, ?_⟩
  rw [q1] at e1
  rw [q2] at e2
  rw [show ((16777216 : Nat) : Int) = 16777216 from rfl] at e1
  rw [show ((65536 : Nat) : Int) = 65536 from rfl] at e2
  rw [show ((256 : Nat) : Int) = 256 from rfl] at e3
  rw [e1, show (b0 : Int) * 16777216 + (b1 : Int) * 65536 = ((b0 * 256 + b1 : Nat) : Int) * 65536 by omega, e2,
    show ((b0 * 256 + b1 : Nat) : Int) * 65536 + (b2 : Int) * 256 = (((b0 * 256 + b1) * 256 + b2 : Nat) : Int) * 256 by omega, e3]
  unfold be
  omega

/-- The next operation is a call of this function. -/
theorem at_func {P : Program} {w : World} {ops : Array Oper} {o : Oper} {a : Act} {K : Act → World → Prop} {Q : Exit → Act → World → Prop} {E : Prop} (f : FuncId) (x : Operand) (t : TypeId)
    (hop : o.op = Op.call { callee := Callee.value (Operand.func f), args := #[x], argTypes := #[t] })
    (h : if Region.wanted o (yielded ops a.tmps) = true then Oper.wp P o a w K Q else E) : if Region.wanted o (yielded ops a.tmps) = true then Oper.wp P o a w K Q else E := h

theorem number_raw4 (s : ByteArray) (h : 4 ≤ s.size) (hm : s.size ≤ maxLen) (w : World) :
    Calls Tryz.prog 115 #[.string s] w fun e w' => e = .returned (.int .u32 (be s[0].toNat s[1].toNat s[2].toNat s[3].toNat : Nat)) ∧ w' = w.drew := by
  have b0 := s[0].toNat_lt
  have b1 := s[1].toNat_lt
  have b2 := s[2].toNat_lt
  have b3 := s[3].toNat_lt
  obtain ⟨x, y, o1, o2, o3⟩ := ors s[0].toNat s[1].toNat s[2].toNat s[3].toNat b0 b1 b2 b3
  obtain ⟨z, hz⟩ : ∃ z : Int, ((be s[0].toNat s[1].toNat s[2].toNat s[3].toNat : Nat) : Int) = z := ⟨_, rfl⟩
  rw [hz] at o3 ⊢
  clear hz
  have i0 : 0 < s.size := by omega
  have i1 : (1 : Int) < (s.size : Int) := by omega
  have i2 : (2 : Int) < (s.size : Int) := by omega
  have i3 : (3 : Int) < (s.size : Int) := by omega
  go_enter Tryz.func115, Tryz.ntmps115
  go_wp2
  go_region
  go_wp2
  go_ret
  exact ⟨rfl, rfl⟩

theorem byteAt_cut (s : ByteArray) (a b i : Nat) (hb : b ≤ s.size) (hi : a + i < b) : byteAt (s.extract a b) i = byteAt s (a + i) := by
  have h1 : i < (s.extract a b).size := by rw [ByteArray.size_extract]; omega
  rw [byteAt_in _ i h1, byteAt_in _ (a + i) (by omega)]
  congr 1
  exact ByteArray.getElem_extract h1

theorem num4 (B : Nat → Nat) (a : Nat) : numOf B a 4 = be (B a) (B (a + 1)) (B (a + 2)) (B (a + 3)) := by
  simp [numOf, be]

theorem num_lt (s : ByteArray) (a : Nat) : numOf (byteAt s) a 4 < 4294967296 := numOf_lt (byteAt_lt s) a 4

/-- The number that a text has from place a on. -/
theorem number_any (s : ByteArray) (a b : Nat) (hb : b ≤ s.size) (h : a + 4 ≤ b) (hm : s.size ≤ maxLen) (w : World) :
    Calls Tryz.prog 115 #[.string (s.extract a b)] w fun e w' => e = .returned (.int .u32 (numOf (byteAt s) a 4 : Nat)) ∧ w' = w.drew := by
  have h4 : 4 ≤ (s.extract a b).size := by rw [ByteArray.size_extract]; omega
  have hm4 : (s.extract a b).size ≤ maxLen := by rw [ByteArray.size_extract]; omega
  refine (number_raw4 (s.extract a b) h4 hm4 w).mono ?_
  rintro e w' ⟨rfl, rfl⟩
  refine ⟨?_, rfl⟩
  rw [num4, ← byteAt_in, ← byteAt_in, ← byteAt_in, ← byteAt_in, byteAt_cut s a b 0 hb (by omega), byteAt_cut s a b 1 hb (by omega), byteAt_cut s a b 2 hb (by omega), byteAt_cut s a b 3 hb (by omega)]
  rfl

theorem number_all (s : ByteArray) (h : 4 ≤ s.size) (hm : s.size ≤ maxLen) (w : World) :
    Calls Tryz.prog 115 #[.string s] w fun e w' => e = .returned (.int .u32 (numOf (byteAt s) 0 4 : Nat)) ∧ w' = w.drew := by
  have := number_any s 0 s.size (Nat.le_refl _) (by omega) hm w
  rwa [show s.extract 0 s.size = s by simp] at this

/-- The state of seventeen bytes. -/
def dmOf (s : ByteArray) : Dm := ⟨(numOf (byteAt s) 0 4 : Nat), (numOf (byteAt s) 4 4 : Nat), (numOf (byteAt s) 8 4 : Nat), (numOf (byteAt s) 12 4 : Nat), byteAt s 16 == 1⟩

theorem dmOf_w (s : ByteArray) : Wd (dmOf s) := by
  have h1 := num_lt s 0
  have h2 := num_lt s 4
  have h3 := num_lt s 8
  have h4 := num_lt s 12
  refine ⟨⟨?_, ?_⟩, ⟨?_, ?_⟩, ⟨?_, ?_⟩, ⟨?_, ?_⟩⟩ <;> simp only [dmOf] <;> omega

end Go.Proofs.YtmegghgjllbamaaGreatDoor.Dm
