/- Layer 10: a uart's bytes, and the uart of bytes, there and back. -/
import Derived.Test.YtdapjpbdplhgbaaUaText
import Derived.Test.YtdapjpbdplhgbaaUaTake
namespace Go.Proofs.Ytdapjpbdplhgbaa.Ua
open Go.RowKit
set_option linter.unusedVariables false
set_option maxRecDepth 100000

/-- A text's bytes as a list. -/
def lst (s : ByteArray) : List UInt8 := s.data.toList

theorem lst_ext {a b : ByteArray} (h : lst a = lst b) : a = b := by
  apply ByteArray.ext
  exact Array.toList_inj.1 h

theorem lst_append (a b : ByteArray) : lst (a ++ b) = lst a ++ lst b := by
  unfold lst
  simp

theorem lst_extract (s : ByteArray) (a b : Nat) : lst (s.extract a b) = ((lst s).drop a).take (b - a) := by
  unfold lst
  simp [ByteArray.data_extract]

theorem lst_length (s : ByteArray) : (lst s).length = s.size := by
  unfold lst
  simp

theorem byteN_lst (s : ByteArray) (k : Nat) : byteN s k = ((lst s).map UInt8.toNat).getD k 0 := rfl

theorem lst_byteT (n : Nat) : lst (byteT n) = [UInt8.ofNat n] := rfl

theorem byteT_cons (s : ByteArray) (h : 0 < s.size) : byteT (byteN s 0) ++ s.extract 1 s.size = s := by
  apply lst_ext
  rw [lst_append, lst_extract, lst_byteT, byteN_lst]
  have hl := lst_length s
  cases e : lst s with
  | nil => rw [e] at hl; simp at hl; omega
  | cons a l =>
    rw [e] at hl
    simp at hl
    simp
    rw [List.take_of_length_le (by omega)]

theorem tail_of (n : Nat) (t : ByteArray) : (byteT n ++ t).extract 1 (byteT n ++ t).size = t := by
  apply lst_ext
  rw [lst_extract, lst_append, lst_byteT, ByteArray.size_append, byteT_size]
  have hl := lst_length t
  simp
  rw [List.take_of_length_le (by omega)]

theorem head_of (n : Nat) (h : n < 256) (t : ByteArray) : byteN (byteT n ++ t) 0 = n := by
  rw [byteN_lst, lst_append, lst_byteT]
  simp
  omega

theorem cat_size (n : Nat) (t : ByteArray) : (byteT n ++ t).size = 1 + t.size := by rw [ByteArray.size_append, byteT_size]

/-- What is counted is taken. -/
theorem take_count (a t : ByteArray) (m : Nat) (hm : m < 256) (h : a.size ≤ m) : May (countV a ++ t) m ∧ headT (countV a ++ t) = a ∧ tailT (countV a ++ t) = t := by
  unfold countV
  rw [ByteArray.append_assoc]
  have hx := tail_of a.size (a ++ t)
  have hh := head_of a.size (by omega) (a ++ t)
  have hz := cat_size a.size (a ++ t)
  have ha := ByteArray.size_append (a := a) (b := t)
  refine ⟨⟨by omega, by omega, by omega⟩, ?_, ?_⟩
  · unfold headT
    rw [hx, hh]
    apply lst_ext
    rw [lst_extract, lst_append, ← lst_length a]
    simp
  · unfold tailT
    rw [hx, hh, hz]
    apply lst_ext
    have hl := lst_length a
    have hl2 := lst_length t
    rw [lst_extract, lst_append, ← lst_length a]
    simp
    rw [List.take_of_length_le (by omega)]

/-- What may be taken was counted. -/
theorem count_take {s : ByteArray} {m : Nat} (h : May s m) : s = countV (headT s) ++ tailT s ∧ (headT s).size = byteN s 0 ∧ (tailT s).size + byteN s 0 + 1 = s.size := by
  obtain ⟨h0, h1, h2⟩ := h
  have hz : (s.extract 1 s.size).size = s.size - 1 := by rw [ByteArray.size_extract]; omega
  have hs : (headT s).size = byteN s 0 := by
    unfold headT
    rw [ByteArray.size_extract, hz]
    omega
  have ht : (tailT s).size + byteN s 0 + 1 = s.size := by
    unfold tailT
    rw [ByteArray.size_extract, hz]
    omega
  refine ⟨?_, hs, ht⟩
  unfold countV
  rw [hs, ByteArray.append_assoc]
  have hc : headT s ++ tailT s = s.extract 1 s.size := by
    unfold headT tailT
    apply lst_ext
    rw [← hz]
    generalize s.extract 1 s.size = r
    have hl := lst_length r
    rw [lst_append, lst_extract, lst_extract]
    simp only [List.drop_zero, Nat.sub_zero]
    rw [List.take_of_length_le (l := List.drop _ _) (by simp; omega), List.take_append_drop]
  rw [hc, byteT_cons s h0]

/-- Are these a uart's bytes? -/
def Good (s : ByteArray) : Prop := 0 < s.size ∧ byteN s 0 ≤ 1 ∧ May (s.extract 1 s.size) 16 ∧ May (tailT (s.extract 1 s.size)) 64 ∧ (tailT (tailT (s.extract 1 s.size))).size = 0

/-- The uart of bytes. -/
def uaOf (s : ByteArray) : Ua := ⟨headT (s.extract 1 s.size), headT (tailT (s.extract 1 s.size)), (byteN s 0 : Int) == 1⟩

theorem no_bytes {s : ByteArray} (h : s.size = 0) : s = ByteArray.empty := ByteArray.size_eq_zero_iff.1 h

theorem one_nat (b : Bool) : ∃ n : Nat, one b = (n : Int) ∧ n ≤ 1 ∧ ((n : Int) == 1) = b := by
  cases b
  · exact ⟨0, rfl, by decide, rfl⟩
  · exact ⟨1, rfl, by decide, rfl⟩

theorem good_text {s : ByteArray} (h : Good s) : Fits (uaOf s) ∧ textV (uaOf s) = s := by
  obtain ⟨h0, h1, h2, h3, h4⟩ := h
  obtain ⟨e1, z1, -⟩ := count_take h2
  obtain ⟨e2, z2, -⟩ := count_take h3
  rw [no_bytes h4] at e2
  refine ⟨⟨?_, ?_⟩, ?_⟩
  · show (headT (s.extract 1 s.size)).size ≤ 16
    rw [z1]
    exact h2.2.1
  · show (headT (tailT (s.extract 1 s.size))).size ≤ 64
    rw [z2]
    exact h3.2.1
  · unfold textV uaOf
    simp only
    have hb : one ((byteN s 0 : Int) == 1) = (byteN s 0 : Int) := by
      rcases (show byteN s 0 = 0 ∨ byteN s 0 = 1 by omega) with h | h <;> rw [h] <;> rfl
    rw [hb]
    rw [ByteArray.append_empty] at e2
    rw [ByteArray.append_assoc, ← e2, ← e1, byteT_cons s h0]

theorem text_good {u : Ua} (hu : Fits u) : Good (textV u) ∧ uaOf (textV u) = u ∧ (textV u).size = 3 + u.i.size + u.o.size := by
  obtain ⟨n, e, hn, hb⟩ := one_nat u.n
  have ht : textV u = byteT n ++ (countV u.i ++ countV u.o) := by
    unfold textV
    rw [e, ByteArray.append_assoc]
  have hx := tail_of n (countV u.i ++ countV u.o)
  have hh := head_of n (by omega) (countV u.i ++ countV u.o)
  have hz := cat_size n (countV u.i ++ countV u.o)
  obtain ⟨m1, d1, l1⟩ := take_count u.i (countV u.o) 16 (by decide) hu.i
  have hempty : countV u.o ++ ByteArray.empty = countV u.o := ByteArray.append_empty
  obtain ⟨m2, d2, l2⟩ := take_count u.o ByteArray.empty 64 (by decide) hu.o
  rw [hempty] at m2 d2 l2
  rw [ht]
  unfold Good uaOf
  rw [hx, hh, l1, d1, d2, l2]
  refine ⟨⟨by omega, hn, m1, m2, rfl⟩, ?_, ?_⟩
  · rw [hb]
  · rw [hz, ByteArray.size_append]
    unfold countV
    rw [cat_size, cat_size]
    omega

/-- The document's n-th uart. -/
def cand (s : ByteArray) (n : Nat) : Ua := ⟨s.extract 2 (2 + n), s.extract (3 + n) s.size, (byteN s 0 : Int) == 1⟩

theorem cand_of {u : Ua} (hu : Fits u) : cand (textV u) u.i.size = u := by
  obtain ⟨n, e, hn, hb⟩ := one_nat u.n
  have ht : textV u = byteT n ++ (countV u.i ++ countV u.o) := by
    unfold textV
    rw [e, ByteArray.append_assoc]
  have hh := head_of n (by omega) (countV u.i ++ countV u.o)
  have hz := (text_good hu).2.2
  have h3 : (cand (textV u) u.i.size).n = u.n := by
    show ((byteN (textV u) 0 : Int) == 1) = u.n
    rw [ht, hh, hb]
  have hl1 := lst_length u.i
  have hl2 := lst_length u.o
  have hL : lst (textV u) = UInt8.ofNat n :: UInt8.ofNat u.i.size :: (lst u.i ++ UInt8.ofNat u.o.size :: lst u.o) := by
    rw [ht, lst_append, lst_append, lst_byteT]
    unfold countV
    rw [lst_append, lst_append, lst_byteT, lst_byteT]
    simp
  have h1 : (cand (textV u) u.i.size).i = u.i := by
    apply lst_ext
    show lst ((textV u).extract 2 (2 + u.i.size)) = _
    rw [lst_extract, hL, show 2 + u.i.size - 2 = (lst u.i).length by omega]
    simp
  have h2 : (cand (textV u) u.i.size).o = u.o := by
    apply lst_ext
    show lst ((textV u).extract (3 + u.i.size) (textV u).size) = _
    rw [lst_extract, hL, hz, show 3 + u.i.size = (lst u.i).length + 1 + 2 by omega]
    simp
    rw [List.take_of_length_le (by omega)]
  obtain ⟨i, o, n⟩ := u
  simp only at h1 h2 h3
  generalize cand (textV ⟨i, o, n⟩) i.size = c at *
  obtain ⟨ci, co, cn⟩ := c
  simp only at h1 h2 h3
  rw [h1, h2, h3]

end Go.Proofs.Ytdapjpbdplhgbaa.Ua
