/- Layer 19: the program's log: a head is read. -/
import Derived.Test.YtgffhnggocbjhaaQWpF
namespace Go.Proofs.Ytgffhnggocbjhaa
open Go.RowKit
set_option linter.unusedVariables false
set_option maxRecDepth 100000
set_option linter.unusedSimpArgs false

/-- The bytes in block b, the place in block a. -/
structure Took (y : World) (b a : Nat) (s : ByteArray) (k : Nat) : Prop where
  box : Box y b #[.string s]
  at_ : Box y a #[.int .i64 (k : Int)]
  ne : b ≠ a

theorem or_byte (a b : Nat) (ha : a < 16777216) (hb : b < 256) : bits .or .i64 ((a : Int) * 256) (b : Int) = ((a * 256 + b : Nat) : Int) := by
  have h64 : ∀ c : Nat, c < 18446744073709551616 → (BitVec.ofInt 64 (c : Int)).toNat = c := fun c hc => ofInt_u64 c hc
  rw [show (a : Int) * 256 = ((a * 256 : Nat) : Int) by omega]
  show IntKind.i64.wrap ((BitVec.ofInt 64 ((a * 256 : Nat) : Int) ||| BitVec.ofInt 64 (b : Int)).toNat : Int) = _
  rw [BitVec.toNat_or, h64 _ (by omega), h64 _ (by omega)]
  have := Nat.shiftLeft_add_eq_or_of_lt (i := 8) (show b < 2 ^ 8 by omega) a
  rw [Nat.shiftLeft_eq] at this
  simp only [show (2 : Nat) ^ 8 = 256 from rfl] at this
  rw [← this, IntKind.wrap_i64]
  omega

theorem Took.next {y : World} {b a : Nat} {s : ByteArray} {k : Nat} (h : Took y b a s k) (k' : Nat) : Took (y.setCell ⟨a, 0, none⟩ (.int .i64 (k' : Int))) b a s k' :=
  ⟨h.box.of_heap (Below.heap_setCell _ _ _ _ h.ne), h.at_.set 0 _, h.ne⟩

set_option maxRecDepth 100000 in
theorem wtake_any {y : World} {b a : Nat} {s : ByteArray} {k : Nat} (h : Took y b a s k) (n : Nat) (hn : n ≤ 4) (hk : k + n ≤ s.size) (hs : s.size ≤ 1000) :
    Calls Try.prog 98 #[.int .i64 (n : Int), .pointer (some ⟨b, 0, none⟩), .pointer (some ⟨a, 0, none⟩)] y fun e w' => e = .returned (.int .i64 (nb s k n : Int)) ∧ Took w' b a s (k + n) ∧ Turn (fun j => j = a) y w' := by
  replace h := hide h
  go_enter Try.func98, Try.ntmps98
  go_wp2
  go_loopw [5, 7] (fun v i wr => ∃ j p : Nat, j ≤ n ∧ Hid (p = k + j) ∧ i = .int .i64 (j : Int) ∧ Hid (v = .int .i64 (nb s k j : Int)) ∧ Hid (Took wr b a s p) ∧ Hid (Turn (fun j => j = a) y wr)) (fun _ i _ => n - (intOf i).toNat)
  case atStart => exact ⟨0, k, by omega, hide rfl, rfl, hide rfl, h, hide (Turn.refl _ _)⟩
  case round =>
    obtain ⟨j, p, hj, hp, rfl, hv, hT, hU⟩ := hrel
    by_cases hlt : j < n
    · have q1 := nb_lt s k j
      have q2 : (256 : Nat) ^ j ≤ 256 ^ 3 := Nat.pow_le_pow_right (by omega) (by omega)
      have hp' : p < s.size := by have := hp.out; omega
      have e1 : nb s k (j + 1) = nb s k j * 256 + s[p].toNat := by
        rw [← byteAt_in s p hp', hp.out]; rfl
      have hv' := hv.out
      subst hv'
      generalize nb s k j = V at *
      have hb : s[p].toNat < 256 := s[p].toNat_lt
      have o1 := or_byte V s[p].toNat (by omega) hb
      have c1 : wr.cell? ⟨b, 0, none⟩ = some (.string s) := hT.out.box.cell 0
      have c2 : wr.cell? ⟨a, 0, none⟩ = some (.int .i64 (p : Int)) := hT.out.at_.cell 0
      have c3 := hT.out.at_.free 0
      have U2 := hide (hU.out.trans (G := fun j => j = a) (y := wr.setCell ⟨a, 0, none⟩ (.int .i64 ((p + 1 : Nat) : Int))) ⟨rfl, rfl, rfl, by simp [World.setCell], fun i _ hn => Below.heap_setCell _ _ _ i hn⟩ (fun b h => .inl h))
      have T2 := hide (hT.out.next (p + 1))
      replace e1 := hide e1
      have hV : V < 16777216 := by omega
      have hp1 : ((p + 1 : Nat) : Int) = (p : Int) + 1 := by omega
      rw [hp1] at U2 T2
      clear hv q1 q2 h hT hU
      go_wp2
      go_roundw
      case rel => exact ⟨j + 1, p + 1, by omega, hide (by rw [hp.out]; omega), by go_num, hide (by rw [e1.out]; exact congrArg _ (by omega)), T2, U2⟩
      case measure => simp [intOf]; omega
    · have hx : j = n := by omega
      subst hx
      have hv' := hv.out
      subst hv'
      have hp' := hp.out
      subst hp'
      clear hv hp h
      go_wp2
      go_ret
      exact ⟨rfl, hT.out, hU.out⟩

end Go.Proofs.Ytgffhnggocbjhaa
