/- Layer 13: what a state's text tells of it, and what a text's state tells of the text. -/
import Derived.Test.YthjcijlabpinkaaGreatDoorQCuTextM
import Derived.Test.YthjcijlabpinkaaGreatDoorQDmTextM
namespace Go.Proofs.YthjcijlabpinkaaGreatDoor
open Go.RowKit
set_option linter.unusedVariables false
set_option maxRecDepth 100000
set_option linter.unusedSimpArgs false

/-- A text's bytes as numbers are the text. -/
theorem nums_self (s : ByteArray) : strOfNums ((List.range s.size).map fun j => ((byteAt s j : Nat) : Int)) = s := by
  apply ByteArray.ext
  apply Array.ext'
  rw [strOfNums_data, List.map_map]
  refine List.ext_getElem (by rw [List.length_map, List.length_range, Array.length_toList]; rfl) ?_
  intro i h1 h2
  have hi : i < s.size := by rw [Array.length_toList] at h2; exact h2
  simp only [List.getElem_map, List.getElem_range, Function.comp, Int.toNat_natCast, Array.getElem_toList]
  rw [byteAt_in s i hi]
  simp [ByteArray.getElem_eq_getElem_data]

theorem bytesW_get (l : List Int) (j : Nat) : (bytesW l)[4 * j]? = l[j]?.map (fun v => v / 16777216) ∧ (bytesW l)[4 * j + 1]? = l[j]?.map (fun v => v / 65536 % 256) ∧
    (bytesW l)[4 * j + 2]? = l[j]?.map (fun v => v / 256 % 256) ∧ (bytesW l)[4 * j + 3]? = l[j]?.map (fun v => v % 256) := by
  induction l generalizing j with
  | nil => simp [bytesW]
  | cons a l ih =>
    have e : bytesW (a :: l) = a / 16777216 :: a / 65536 % 256 :: a / 256 % 256 :: a % 256 :: bytesW l := by simp [bytesW]
    cases j with
    | zero => rw [e]; simp
    | succ j =>
      have := ih j
      rw [e, show 4 * (j + 1) = 4 * j + 1 + 1 + 1 + 1 by omega]
      simpa using this

/-- The j-th number of a text of numbers. -/
theorem num_text (l : List Int) (j : Nat) (v : Int) (h : l[j]? = some v) (hv : Cp.W32 v) : numS (strOfNums (bytesW l)) (4 * j) = v := by
  obtain ⟨g0, g1, g2, g3⟩ := bytesW_get l j
  unfold numS
  rw [Dm.num4, Dm.byteAt_nums, Dm.byteAt_nums, Dm.byteAt_nums, Dm.byteAt_nums]
  simp only [List.getD_eq_getElem?_getD, List.getElem?_map, g0, g1, g2, g3, h, Option.map_some, Option.getD_some]
  exact Dm.be4_int hv

theorem word_w {c : Cs} (hc : Wc c) (j : Nat) (h : j < 63) : ∃ v, (wordsC c)[j]? = some v ∧ Cp.W32 v ∧ (cellsC c)[j]? = some (if j = 2 ∨ j = 37 then .bool (v == 1) else .int .u32 v) ∧ (j = 2 ∨ j = 37 → v ≤ 1) := by
  by_cases h2 : j = 2 ∨ j = 37
  · obtain ⟨y, e1, e2⟩ := cell_flag c j h2
    refine ⟨_, e2, ?_, ?_, ?_⟩
    · cases y <;> exact ⟨by decide, by decide⟩
    · rw [if_pos h2, e1]; cases y <;> rfl
    · intro _; cases y <;> decide
  · obtain ⟨v, e1, e2, e3⟩ := cell_word hc j h (fun e => h2 (Or.inl e)) (fun e => h2 (Or.inr e))
    exact ⟨v, e3, e2, by rw [if_neg h2]; exact e1, fun e => absurd e h2⟩

theorem text_numC {c : Cs} (hc : Wc c) (j : Nat) (h : j < 63) : (wordsC c)[j]? = some (numS (textC c) (4 * j)) := by
  obtain ⟨v, e1, e2, -⟩ := word_w hc j h
  unfold textC
  rw [num_text _ j v e1 e2]
  exact e1

theorem textC_size (c : Cs) : (textC c).size = 252 := by
  unfold textC
  rw [strOfNums_size, bytesW_length, wordsC_length]

/-- The state of a state's text. -/
theorem csOf_textC {c : Cs} (hc : Wc c) : cellsC (csOf (textC c)) = cellsC c := by
  rw [← rowP_all]
  apply Array.ext'
  unfold rowP
  refine List.ext_getElem? fun j => ?_
  by_cases hj : j < 63
  · obtain ⟨v, e1, e2, e3, e4⟩ := word_w hc j hj
    have e5 : numS (textC c) (4 * j) = v := num_text _ j v e1 e2
    have e6 : (valsP (textC c))[j]? = some (parsedV (textC c) j) := by unfold valsP; simp [hj]
    rw [Array.getElem?_toList, Array.getElem?_toList, e3, List.getElem?_toArray, List.getElem?_append_left (by rw [List.length_take, valsP_length]; omega), List.getElem?_take_of_lt hj, e6]
    unfold parsedV
    rw [e5]
  · rw [List.getElem?_eq_none (by simp only [List.length_append, List.length_take, List.length_drop, valsP_length, zeros_length]; omega), List.getElem?_eq_none (by show (cellsC c).toList.length ≤ j; have : (cellsC c).toList.length = 63 := rfl; omega)]

theorem okP_is (s : ByteArray) : okP s 63 = (decide (numS s 8 ≤ 1) && decide (numS s 148 ≤ 1)) := by
  unfold okP
  simp

theorem okP_text {c : Cs} (hc : Wc c) : okP (textC c) 63 = true := by
  obtain ⟨v, e1, e2, e3, e4⟩ := word_w hc 2 (by omega)
  obtain ⟨u, f1, f2, f3, f4⟩ := word_w hc 37 (by omega)
  have a : numS (textC c) (4 * 2) = v := num_text _ 2 v e1 e2
  have b : numS (textC c) (4 * 37) = u := num_text _ 37 u f1 f2
  rw [okP_is, show (8 : Nat) = 4 * 2 from rfl, show (148 : Nat) = 4 * 37 from rfl, a, b]
  simp [e4, f4]

theorem num_R0 {c : Cs} (hc : Wc c) : numS (textC c) 12 = c.R 0 := num_text (wordsC c) 3 (c.R 0) rfl (hc.R 0)

theorem flag_num {n : Int} (h0 : 0 ≤ n) (h1 : n ≤ 1) : oneN (n == 1) = n := by
  have : n = 0 ∨ n = 1 := by omega
  rcases this with rfl | rfl <;> rfl

/-- The numbers of a text's state. -/
theorem words_csOf (s : ByteArray) (h : okP s 63 = true) : wordsC (csOf s) = (List.range 63).map fun j => numS s (4 * j) := by
  rw [okP_is] at h
  simp only [Bool.and_eq_true, decide_eq_true_eq] at h
  have e1 := flag_num (numS_w s 8).1 h.1
  have e2 := flag_num (numS_w s 148).1 h.2
  refine List.ext_getElem? fun j => ?_
  by_cases hj : j < 63
  · rw [List.getElem?_map, List.getElem?_range hj]
    by_cases h2 : j = 2
    · subst h2; show some (oneN (numS s 8 == 1)) = some (numS s 8); rw [e1]
    by_cases h3 : j = 37
    · subst h3; show some (oneN (numS s 148 == 1)) = some (numS s 148); rw [e2]
    · have e6 : (valsP s)[j]? = some (parsedV s j) := by unfold valsP; simp [hj]
      have e7 : (cellsC (csOf s))[j]? = some (parsedV s j) := by
        rw [← rowP_all]
        unfold rowP
        rw [List.getElem?_toArray, List.getElem?_append_left (by rw [List.length_take, valsP_length]; omega), List.getElem?_take_of_lt hj, e6]
      unfold wordsC
      rw [List.getElem?_map, Array.getElem?_toList, e7]
      unfold parsedV
      rw [if_neg (by omega)]
      rfl
  · rw [List.getElem?_eq_none (by rw [wordsC_length]; omega), List.getElem?_eq_none (by simp; omega)]

theorem text_csOf {s : ByteArray} (hs : s.size = 252) : textC (csOf s) = s ↔ okP s 63 = true := by
  constructor
  · intro h
    rw [← h]
    exact okP_text (csOf_w s)
  · intro h
    unfold textC
    rw [words_csOf s h, bytesW_nums]
    have := nums_self s
    rw [hs] at this
    exact this

end Go.Proofs.YthjcijlabpinkaaGreatDoor
