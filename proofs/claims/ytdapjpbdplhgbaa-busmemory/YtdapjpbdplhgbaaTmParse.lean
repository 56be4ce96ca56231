/- Layer 9: contracts of the timer of bytes, the program's. -/
import Derived.Test.YtdapjpbdplhgbaaTmText
namespace Go.Proofs.Ytdapjpbdplhgbaa.Tm
open Go.RowKit
set_option linter.unusedVariables false
set_option maxRecDepth 100000

/-- Byte number k of a text (0 behind its end). -/
def byteN (s : ByteArray) (k : Nat) : Nat := (s.data.toList.map UInt8.toNat).getD k 0

theorem byteN_in (s : ByteArray) (k : Nat) (h : k < s.size) : byteN s k = s[k].toNat := by
  unfold byteN
  have h' : k < s.data.toList.length := by simpa using h
  rw [List.getD_eq_getElem?_getD, List.getElem?_map, List.getElem?_eq_getElem h']
  rfl

theorem byteN_lt (s : ByteArray) (k : Nat) : byteN s k < 256 := by
  unfold byteN
  rw [List.getD_eq_getElem?_getD, List.getElem?_map]
  cases s.data.toList[k]? with
  | none => decide
  | some b => exact b.toNat_lt

/-- The number of n bytes from the k-th on. -/
def valN (s : ByteArray) (k : Nat) : Nat → Nat
  | 0 => 0
  | n + 1 => valN s k n * 256 + byteN s (k + n)

theorem valN_lt (s : ByteArray) (k : Nat) : ∀ n, valN s k n < 256 ^ n
  | 0 => by simp [valN]
  | n + 1 => by
    have h1 := valN_lt s k n
    have h2 := byteN_lt s (k + n)
    simp only [valN, Nat.pow_succ]
    omega

theorem or_byte {a b : Nat} (ha : a < 16777216) (hb : b < 256) : bits .or .u32 ((a : Int) * 256) (b : Int) = (a : Int) * 256 + b := by
  rw [u32_or ((a : Int) * 256) (b : Int) (by omega) (by omega) (by omega) (by omega)]
  rw [show ((a : Int) * 256).toNat = a * 256 by omega, Int.toNat_natCast]
  have := Nat.shiftLeft_add_eq_or_of_lt (i := 8) (show b < 2 ^ 8 by omega) a
  rw [Nat.shiftLeft_eq] at this
  simp only [show (2 : Nat) ^ 8 = 256 from rfl] at this
  rw [← this]
  omega

/-- The bytes s in block b, the place k in block a; all other blocks are x's. -/
structure Took (x : World) (b a : Nat) (s : ByteArray) (k : Nat) (y : World) : Prop where
  box : y.cell? ⟨b, 0, none⟩ = some (.string s)
  at_ : y.cell? ⟨a, 0, none⟩ = some (.int .i64 k)
  free : y.frozen? ⟨a, 0, none⟩ = false
  ne : b ≠ a
  other : ∀ g, g ≠ a → y.heap[g]? = x.heap[g]?
  size : y.heap.size = x.heap.size
  below : ∀ N W, Below N W x → N ≤ a → Below N W y

theorem Took.next {x y : World} {b a : Nat} {s : ByteArray} {k : Nat} (h : Took x b a s k y) (k' : Nat) : Took x b a s k' (y.setCell ⟨a, 0, none⟩ (.int .i64 k')) := by
  refine ⟨?_, World.cell?_setCell_same _ _ _ h.at_, by rw [World.frozen?_setCell]; exact h.free, h.ne, fun g hg => ?_, by rw [World.size_setCell]; exact h.size, fun N W hB hN => (h.below N W hB hN).setCell hN _⟩
  · rw [World.cell?_setCell_other y _ _ _ (by intro c; injection c with c1; exact h.ne c1.symm)]
    exact h.box
  · rw [Below.heap_setCell _ _ _ g (by show g ≠ a; exact hg)]
    exact h.other g hg

set_option maxRecDepth 100000 in
theorem take_any {x y : World} {b a : Nat} {s : ByteArray} {k : Nat} (h : Took x b a s k y) (n : Nat) (hn : n ≤ 4) (hk : k + n ≤ s.size) (hs : s.size ≤ 1000) :
    Calls Try.prog 76 #[.int .i64 n, .pointer (some ⟨b, 0, none⟩), .pointer (some ⟨a, 0, none⟩)] y fun e w' => e = .returned (.int .u32 (valN s k n)) ∧ Took x b a s (k + n) w' := by
  replace h := hide h
  go_enter Try.func76, Try.ntmps76
  go_wp2
  go_loopw [5, 7] (fun v i wr => ∃ j p : Nat, j ≤ n ∧ Hid (p = k + j) ∧ i = .int .i64 j ∧ Hid (v = .int .u32 (valN s k j)) ∧ Hid (Took x b a s p wr)) (fun _ i _ => n - (intOf i).toNat)
  case atStart => exact ⟨0, k, by omega, hide rfl, rfl, hide rfl, h⟩
  case round =>
    obtain ⟨j, p, hj, hp, rfl, hv, hT⟩ := hrel
    by_cases hlt : j < n
    · have q1 := valN_lt s k j
      have q2 : (256 : Nat) ^ j ≤ 256 ^ 3 := Nat.pow_le_pow_right (by omega) (by omega)
      have hp' : p < s.size := by have := hp.out; omega
      have e1 : valN s k (j + 1) = valN s k j * 256 + s[p].toNat := by
        rw [← byteN_in s p hp', hp.out]; rfl
      have hv' := hv.out
      subst hv'
      generalize valN s k j = V at *
      have hb : s[p].toNat < 256 := s[p].toNat_lt
      have o1 := or_byte (a := V) (b := s[p].toNat) (by omega) hb
      have c1 := hT.out.box
      have c2 := hT.out.at_
      have c3 := hT.out.free
      replace hT := hide (hT.out.next (p + 1))
      replace e1 := hide e1
      have hV : V < 16777216 := by omega
      clear hv q1 q2 h
      go_wp2
      go_roundw
      case rel => exact ⟨j + 1, p + 1, by omega, hide (by rw [hp.out]; omega), by go_num, hide (by rw [e1.out]; exact congrArg _ (by omega)), hT⟩
      case measure => simp [intOf]; omega
    · have hx : j = n := by omega
      subst hx
      have hv' := hv.out
      subst hv'
      have hp' := hp.out
      subst hp'
      clear hv hp h
      go_wp2
      go_ret
      exact ⟨rfl, hT.out⟩

end Go.Proofs.Ytdapjpbdplhgbaa.Tm
