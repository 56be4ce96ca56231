/- Layer 9: a timer's bytes, and the timer of bytes, there and back. -/
import Derived.Test.YtdapjpbdplhgbaaTmParse2
namespace Go.Proofs.Ytdapjpbdplhgbaa.Tm
open Go.RowKit
set_option linter.unusedVariables false
set_option maxRecDepth 100000

theorem byteN_nums (ns : List Int) (k : Nat) : byteN (strOfNums ns) k = (ns.map fun n => n.toNat % 256).getD k 0 := by
  unfold byteN
  rw [strOfNums_data, List.map_map]
  congr 1

theorem be4 (E : Nat) (h : E < 4294967296) : ((E / 16777216 % 256 * 256 + E / 65536 % 256) * 256 + E / 256 % 256) * 256 + E % 256 = E := by
  have e1 : E / 65536 = E / 256 / 256 := by rw [Nat.div_div_eq_div_mul]
  have e2 : E / 16777216 = E / 256 / 256 / 256 := by rw [Nat.div_div_eq_div_mul, Nat.div_div_eq_div_mul]
  have h3 : E / 256 / 256 / 256 < 256 := by rw [← e2]; exact Nat.div_lt_of_lt_mul (by omega)
  rw [e1, e2]
  generalize hA : E / 256 = A at *
  generalize hB : A / 256 = B at *
  generalize hC : B / 256 = C at *
  omega

theorem be4_int {e : Int} (h : W32 e) : ((((((e / 16777216).toNat % 256) * 256 + (e / 65536 % 256).toNat % 256) * 256 + (e / 256 % 256).toNat % 256) * 256 + (e % 256).toNat % 256 : Nat) : Int) = e := by
  obtain ⟨E, rfl⟩ := Int.eq_ofNat_of_zero_le h.1
  have h1 : E < 4294967296 := by have := h.2; omega
  have k := be4 E h1
  have q1 : ((E : Int) / 16777216).toNat = E / 16777216 := by omega
  have q2 : ((E : Int) / 65536 % 256).toNat % 256 = E / 65536 % 256 := by omega
  have q3 : ((E : Int) / 256 % 256).toNat % 256 = E / 256 % 256 := by omega
  have q4 : ((E : Int) % 256).toNat % 256 = E % 256 := by omega
  rw [q1, q2, q3, q4, k]

theorem val4 (s : ByteArray) (k : Nat) : valN s k 4 = ((byteN s k * 256 + byteN s (k + 1)) * 256 + byteN s (k + 2)) * 256 + byteN s (k + 3) := by
  simp [valN]

theorem val1 (s : ByteArray) (k : Nat) : valN s k 1 = byteN s k := by
  simp [valN]

theorem text_size (t : Tm) : (textV t).size = 9 := by
  unfold textV
  rw [strOfNums_size]
  rfl

theorem text_bytes (t : Tm) : byteN (textV t) 0 = (t.e / 16777216).toNat % 256 ∧ byteN (textV t) 1 = (t.e / 65536 % 256).toNat % 256 ∧ byteN (textV t) 2 = (t.e / 256 % 256).toNat % 256 ∧ byteN (textV t) 3 = (t.e % 256).toNat % 256 ∧
    byteN (textV t) 4 = (t.l / 16777216).toNat % 256 ∧ byteN (textV t) 5 = (t.l / 65536 % 256).toNat % 256 ∧ byteN (textV t) 6 = (t.l / 256 % 256).toNat % 256 ∧ byteN (textV t) 7 = (t.l % 256).toNat % 256 ∧ byteN (textV t) 8 = (one t.r).toNat % 256 := by
  unfold textV
  simp only [byteN_nums]
  exact ⟨rfl, rfl, rfl, rfl, rfl, rfl, rfl, rfl, rfl⟩

theorem text_last (t : Tm) : byteN (textV t) 8 = if t.r then 1 else 0 := by
  rw [(text_bytes t).2.2.2.2.2.2.2.2]
  cases t.r <;> rfl

/-- What is laid is parsed as it was. -/
theorem text_back {t : Tm} (ht : Wt t) : (⟨valN (textV t) 0 4, valN (textV t) 4 4, (valN (textV t) 8 1 : Int) == 1⟩ : Tm) = t := by
  obtain ⟨b0, b1, b2, b3, b4, b5, b6, b7, -⟩ := text_bytes t
  have b8 := text_last t
  rw [val4, val4, val1]
  simp only [Nat.zero_add, Nat.reduceAdd]
  rw [b0, b1, b2, b3, b4, b5, b6, b7, b8, be4_int ht.e, be4_int ht.l]
  obtain ⟨e, l, r⟩ := t
  cases r <;> rfl

/-- The timer of nine bytes. -/
def tmOf (s : ByteArray) : Tm := ⟨valN s 0 4, valN s 4 4, (valN s 8 1 : Int) == 1⟩

theorem tmOf_w (s : ByteArray) : Wt (tmOf s) := by
  have h1 := valN_lt s 0 4
  have h2 := valN_lt s 4 4
  simp only [show (256 : Nat) ^ 4 = 4294967296 from rfl] at h1 h2
  exact ⟨⟨by simp [tmOf], by simp only [tmOf]; omega⟩, ⟨by simp [tmOf], by simp only [tmOf]; omega⟩⟩

theorem byte_of (x : UInt8) (n : Int) (h : n = (x.toNat : Int)) : UInt8.ofNat n.toNat = x := by
  subst h
  simp

/-- What is a timer's is laid as it was. -/
theorem tmOf_text {s : ByteArray} (hs : s.size = 9) (h8 : byteN s 8 ≤ 1) : textV (tmOf s) = s := by
  obtain ⟨⟨l⟩⟩ := s
  have hl : l.length = 9 := by simpa [ByteArray.size] using hs
  match l, hl with
  | [x0, x1, x2, x3, x4, x5, x6, x7, x8], _ =>
    have q0 := x0.toNat_lt
    have q1 := x1.toNat_lt
    have q2 := x2.toNat_lt
    have q3 := x3.toNat_lt
    have q4 := x4.toNat_lt
    have q5 := x5.toNat_lt
    have q6 := x6.toNat_lt
    have q7 := x7.toNat_lt
    have v1 : valN ⟨⟨[x0, x1, x2, x3, x4, x5, x6, x7, x8]⟩⟩ 0 4 = ((x0.toNat * 256 + x1.toNat) * 256 + x2.toNat) * 256 + x3.toNat := by rw [val4]; rfl
    have v2 : valN ⟨⟨[x0, x1, x2, x3, x4, x5, x6, x7, x8]⟩⟩ 4 4 = ((x4.toNat * 256 + x5.toNat) * 256 + x6.toNat) * 256 + x7.toNat := by rw [val4]; rfl
    have v3 : valN ⟨⟨[x0, x1, x2, x3, x4, x5, x6, x7, x8]⟩⟩ 8 1 = x8.toNat := by rw [val1]; rfl
    have h8' : x8.toNat ≤ 1 := h8
    unfold textV tmOf strOfNums
    simp only [v1, v2, v3]
    congr 2
    simp only [List.map_cons, List.map_nil]
    rw [byte_of x0 _ (by omega), byte_of x1 _ (by omega), byte_of x2 _ (by omega), byte_of x3 _ (by omega), byte_of x4 _ (by omega), byte_of x5 _ (by omega), byte_of x6 _ (by omega), byte_of x7 _ (by omega), byte_of x8 _ ?_]
    rcases (show x8.toNat = 0 ∨ x8.toNat = 1 by omega) with h | h <;> rw [h] <;> rfl

/-- What is none's is laid otherwise. -/
theorem tmOf_none {s : ByteArray} (h8 : ¬ byteN s 8 ≤ 1) : ¬ textV (tmOf s) = s := by
  intro h
  have := text_last (tmOf s)
  rw [h] at this
  split at this <;> omega

end Go.Proofs.Ytdapjpbdplhgbaa.Tm
