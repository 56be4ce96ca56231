/- Texts of rows of bytes: cut, one behind the other, byte by byte. A region walked once. -/
import Derived.Test.YtdapjpbdplhgbaaMemFill
namespace Go.Proofs.Ytdapjpbdplhgbaa
open Go.RowKit
set_option linter.unusedVariables false
set_option maxRecDepth 100000
set_option linter.unusedSimpArgs false

theorem text_ext {a b : ByteArray} (h : a.data.toList = b.data.toList) : a = b := by
  apply ByteArray.ext
  exact Array.toList_inj.1 h

theorem textOf_data (n : Nat) (f : Nat → Nat) : (textOf n f).data.toList = (List.range n).map fun j => UInt8.ofNat (f j) := by
  unfold textOf
  rw [strOfNums_data, List.map_map]
  apply List.map_congr_left
  intro j hj
  simp

theorem textOf_congr {n : Nat} {f g : Nat → Nat} (h : ∀ j, j < n → f j = g j) : textOf n f = textOf n g := by
  apply text_ext
  rw [textOf_data, textOf_data]
  apply List.map_congr_left
  intro j hj
  rw [h j (List.mem_range.1 hj)]

theorem textOf_add (a b : Nat) (f : Nat → Nat) : textOf a f ++ textOf b (fun j => f (a + j)) = textOf (a + b) f := by
  apply text_ext
  rw [ByteArray.data_append, Array.toList_append, textOf_data, textOf_data, textOf_data, List.range_add, List.map_append, List.map_map]
  rfl

theorem textOf_cut (n a b : Nat) (f : Nat → Nat) (h1 : a ≤ b) (h2 : b ≤ n) : (textOf n f).extract a b = textOf (b - a) (fun j => f (a + j)) := by
  apply text_ext
  rw [textOf_data, ByteArray.data_extract, Array.toList_extract, textOf_data]
  apply List.ext_getElem?
  intro j
  by_cases hj : j < b - a
  · rw [List.extract_eq_take_drop, List.getElem?_take_of_lt hj, List.getElem?_drop, List.getElem?_map, List.getElem?_map, List.getElem?_range (by omega), List.getElem?_range hj]
    rfl
  · rw [List.extract_eq_take_drop, List.getElem?_eq_none (by rw [List.length_take]; omega), List.getElem?_eq_none (by rw [List.length_map, List.length_range]; omega)]

theorem byteAt_textOf (n : Nat) (f : Nat → Nat) (hf : ∀ j, f j < 256) (j : Nat) (h : j < n) : byteAt (textOf n f) j = f j := by
  unfold byteAt
  rw [← Array.getElem?_toList, textOf_data, List.getElem?_map, List.getElem?_range h]
  simp
  have := hf j
  omega

theorem textOf_byteAt (s : ByteArray) : s = textOf s.size (byteAt s) := by
  apply text_ext
  rw [textOf_data]
  apply List.ext_getElem?
  intro j
  by_cases hj : j < s.size
  · rw [List.getElem?_map, List.getElem?_range hj]
    unfold byteAt
    rw [Array.getElem?_toList, Array.getElem?_eq_getElem (show j < s.data.size from hj)]
    simp [Array.getElem?_eq_getElem (show j < s.data.size from hj)]
  · rw [List.getElem?_eq_none (by rw [Array.length_toList]; show s.data.size ≤ j; have : s.data.size = s.size := rfl; omega), List.getElem?_eq_none (by rw [List.length_map, List.length_range]; omega)]

/-- A text with a piece put into it. -/
theorem textOf_put (n a : Nat) (f : Nat → Nat) (t : ByteArray) (h : a + t.size ≤ n) :
    (textOf n f).extract 0 a ++ t ++ (textOf n f).extract (a + t.size) n = textOf n (fun j => if a ≤ j ∧ j < a + t.size then byteAt t (j - a) else f j) := by
  rw [textOf_cut n 0 a f (by omega) (by omega), textOf_cut n (a + t.size) n f h (by omega)]
  have e1 : textOf (a - 0) (fun j => f (0 + j)) = textOf a (fun j => if a ≤ j ∧ j < a + t.size then byteAt t (j - a) else f j) := by
    rw [Nat.sub_zero]
    apply textOf_congr
    intro j hj
    rw [if_neg (by omega), Nat.zero_add]
  have e2 : t = textOf t.size (fun j => (fun j => if a ≤ j ∧ j < a + t.size then byteAt t (j - a) else f j) (a + j)) := by
    refine (textOf_byteAt t).trans (textOf_congr fun j hj => ?_)
    show byteAt t j = if a ≤ a + j ∧ a + j < a + t.size then byteAt t (a + j - a) else f (a + j)
    rw [if_pos (by omega), Nat.add_sub_cancel_left]
  have e3 : textOf (n - (a + t.size)) (fun j => f (a + t.size + j)) = textOf (n - (a + t.size)) (fun j => (fun j => if a ≤ j ∧ j < a + t.size then byteAt t (j - a) else f j) (a + t.size + j)) := by
    apply textOf_congr
    intro j hj
    show _ = if a ≤ a + t.size + j ∧ a + t.size + j < a + t.size then _ else f (a + t.size + j)
    rw [if_neg (by omega)]
  rw [e1, e3]
  have e4 : textOf a (fun j => if a ≤ j ∧ j < a + t.size then byteAt t (j - a) else f j) ++ t = textOf (a + t.size) (fun j => if a ≤ j ∧ j < a + t.size then byteAt t (j - a) else f j) := by
    refine Eq.trans ?_ (textOf_add a t.size _)
    congr 1
  rw [e4, textOf_add, show a + t.size + (n - (a + t.size)) = n by omega]

/-- A region that draws its order, walked once, in a class of worlds in which each of its operations tells one value. -/
theorem region_calm {P : Program} {id : Nat} {Q : Exit → Act → World → Prop} {a : Act} {w : World} {l : List Oper} (C : World → Prop) (hm : P.follows .mixedOrders = true) (hB : Region.lexB .any l.toArray = true) (hC : C w.drew)
    (h : wpQuiet P l.toArray C (fun a' => ∀ w', C w' → Q .normal a' w') l a) : (Code.region id l.toArray true).wp P Q a w :=
  wp_region_quiet (C := C) hm hB hC (by simpa using h)

end Go.Proofs.Ytdapjpbdplhgbaa
