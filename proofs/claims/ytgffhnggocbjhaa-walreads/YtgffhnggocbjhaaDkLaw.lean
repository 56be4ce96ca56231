/- Layer 18: what follows: a sector behind a crash; reads and flushes; crashes that keep all, or nothing. -/
import Derived.Test.YtgffhnggocbjhaaDkPure
namespace Go.Proofs.Ytgffhnggocbjhaa
open Go.RowKit
set_option linter.unusedVariables false
set_option maxRecDepth 100000
set_option linter.unusedSimpArgs false

theorem set_at {S : List ByteArray} {n : Nat} {s : ByteArray} (k : Nat) (h : n < S.length) : (S.set n s).getD k T0 = if k = n then s else S.getD k T0 := by
  rw [List.getD_eq_getElem?_getD, List.getD_eq_getElem?_getD, List.getElem?_set]
  by_cases e : n = k
  · subst e; simp [h]
  · rw [if_neg e, if_neg (fun h => e h.symm)]

/-- A sector behind the first k loose writes of a crash: as it was, as one of them, or torn. -/
theorem crash_ways {c : Crs} {L : List (Nat × ByteArray)} {S : List ByteArray} (hS : ∀ s ∈ S, s.size = 64) (hL : ∀ p ∈ L, p.1 < S.length ∧ p.2.size = 64) (s : Nat) : ∀ k, k ≤ L.length →
    ((crashK c L S k).getD s T0 = S.getD s T0 ∨ ∃ i, i < k ∧ (L.getD i (0, T0)).1 = s ∧ (crashK c L S k).getD s T0 = (L.getD i (0, T0)).2) ∨
    (∃ t : Nat, t < k ∧ c.torn = (t : Int) ∧ (L.getD t (0, T0)).1 = s ∧ ((crashK c L S k).getD s T0).extract 0 (cutN c.bytes) = (L.getD t (0, T0)).2.extract 0 (cutN c.bytes))
  | 0, _ => .inl (.inl rfl)
  | k + 1, hk => by
    have ih := crash_ways (c := c) hS hL s k (by omega)
    obtain ⟨el, eg⟩ := crashK_good (c := c) hS (fun p hp => (hL p hp).2) k (by omega)
    obtain ⟨p, hp⟩ : ∃ p, p = L.getD k (0, T0) := ⟨_, rfl⟩
    have hpL := hL p (by rw [hp]; exact getD_mem (show k < L.length by omega))
    have hlt : p.1 < (crashK c L S k).length := by rw [el]; exact hpL.1
    have keep : (crashK c L S (k + 1)).getD s T0 = (crashK c L S k).getD s T0 → _ := fun e => show ((crashK c L S (k + 1)).getD s T0 = S.getD s T0 ∨ ∃ i, i < k + 1 ∧ (L.getD i (0, T0)).1 = s ∧ (crashK c L S (k + 1)).getD s T0 = (L.getD i (0, T0)).2) ∨
        (∃ t : Nat, t < k + 1 ∧ c.torn = (t : Int) ∧ (L.getD t (0, T0)).1 = s ∧ ((crashK c L S (k + 1)).getD s T0).extract 0 (cutN c.bytes) = (L.getD t (0, T0)).2.extract 0 (cutN c.bytes)) by
      rw [e]
      rcases ih with (h | ⟨i, h1, h2, h3⟩) | ⟨t, h1, h2⟩
      · exact .inl (.inl h)
      · exact .inl (.inr ⟨i, by omega, h2, h3⟩)
      · exact .inr ⟨t, by omega, h2⟩
    have he : crashK c L S (k + 1) = oneC c k p (crashK c L S k) := by rw [hp]; rfl
    by_cases e1 : (k : Int) = c.torn
    · have he' : crashK c L S (k + 1) = (crashK c L S k).set p.1 (tornT (cutN c.bytes) p.2 ((crashK c L S k).getD p.1 T0)) := by rw [he, oneC, if_pos e1]
      by_cases e2 : s = p.1
      · refine .inr ⟨k, by omega, e1.symm, by rw [← hp]; exact e2.symm, ?_⟩
        rw [he', set_at s hlt, if_pos e2, ← hp]
        apply text_ext
        have hz : p.2.data.toList.length = 64 := by rw [Array.length_toList]; exact hpL.2
        have hc := cutN_le c.bytes
        rw [extract_list, extract_list, tornT, ByteArray.data_append, Array.toList_append, extract_list]
        simp [List.take_append_of_le_length, hz, hc]
      · refine keep ?_
        rw [he', set_at s hlt, if_neg e2]
    · by_cases e3 : bitAt c.keep k = true
      · have he' : crashK c L S (k + 1) = (crashK c L S k).set p.1 p.2 := by rw [he, oneC, if_neg e1, if_pos e3]
        by_cases e2 : s = p.1
        · refine .inl (.inr ⟨k, by omega, by rw [← hp]; exact e2.symm, ?_⟩)
          rw [he', set_at s hlt, if_pos e2, ← hp]
        · refine keep ?_
          rw [he', set_at s hlt, if_neg e2]
      · refine keep ?_
        rw [he, oneC, if_neg e1, if_neg e3]

/-- What is read is what a flush makes sure. -/
theorem read_flush {L : List (Nat × ByteArray)} {S : List ByteArray} (hL : ∀ p ∈ L, p.1 < S.length) (n : Nat) : ∀ k, k ≤ L.length → readK L n (S.getD n T0) k = (flushK L S k).getD n T0 ∧ (flushK L S k).length = S.length
  | 0, _ => ⟨rfl, rfl⟩
  | k + 1, hk => by
    obtain ⟨ih, hl⟩ := read_flush hL n k (by omega)
    have hp := hL _ (getD_mem (d := (0, T0)) (show k < L.length by omega))
    refine ⟨?_, by simp [flushK, hl]⟩
    rw [readK, flushK, set_at n (by rw [hl]; exact hp), ih]
    by_cases e : n = (L.getD k (0, T0)).1
    · rw [if_pos e, if_pos e.symm]
    · rw [if_neg e, if_neg (fun h => e h.symm)]

/-- A crash that keeps all; one that keeps nothing. -/
theorem crash_all {c : Crs} {L : List (Nat × ByteArray)} {S : List ByteArray} (ht : c.torn < 0) : ∀ k, (∀ i, i < k → bitAt c.keep i = true) → crashK c L S k = flushK L S k
  | 0, _ => rfl
  | k + 1, h => by
    rw [crashK, flushK, crash_all ht k (fun i hi => h i (by omega)), oneC, if_neg (by omega), if_pos (h k (by omega))]
theorem crash_none {c : Crs} {L : List (Nat × ByteArray)} {S : List ByteArray} (ht : c.torn < 0) (hk : c.keep.size = 0) : ∀ k, crashK c L S k = S
  | 0 => rfl
  | k + 1 => by
    rw [crashK, crash_none ht hk k, oneC, if_neg (by omega), if_neg (by simp [bitAt, hk])]

/-- What bytes are, sector by sector; a disk that is opened. -/
def cutT (s : ByteArray) (n : Nat) : List ByteArray := (List.range n).map fun k => s.extract (64 * k) (64 * k + 64)
def openD (s : ByteArray) : Dk := ⟨cutT s (s.size / 64), [], 0, ⟨ByteArray.empty, 0, 0⟩, false, 0⟩

theorem cutT_len (s : ByteArray) (n : Nat) : (cutT s n).length = n := by simp [cutT]
theorem cutT_64 {s : ByteArray} {n : Nat} (h : 64 * n ≤ s.size) : ∀ x ∈ cutT s n, x.size = 64 := fun x hx => by
  obtain ⟨k, hk, rfl⟩ := List.mem_map.1 hx
  have := List.mem_range.1 hk
  rw [ByteArray.size_extract]; omega
theorem cutT_cat {s : ByteArray} : ∀ n, 64 * n ≤ s.size → catT (cutT s n) = s.extract 0 (64 * n)
  | 0, _ => by
    apply text_ext
    rw [extract_list]
    simp [cutT, catT]
  | n + 1, h => by
    have e : cutT s (n + 1) = cutT s n ++ [s.extract (64 * n) (64 * n + 64)] := by simp [cutT, List.range_succ]
    rw [e, catT_app, cutT_cat n (by omega)]
    apply text_ext
    rw [ByteArray.data_append, Array.toList_append, extract_list, show catT [s.extract (64 * n) (64 * n + 64)] = s.extract (64 * n) (64 * n + 64) ++ ByteArray.empty from rfl, ByteArray.append_empty, extract_list, extract_list, List.drop_zero, Nat.sub_zero,
      show 64 * n + 64 - 64 * n = 64 by omega, Nat.sub_zero, show 64 * (n + 1) = 64 * n + 64 by omega, List.take_add]
theorem openD_good {s : ByteArray} (h : s.size % 64 = 0) (h1 : 64 ≤ s.size) (h2 : s.size ≤ 262144) : (openD s).Good ∧ catT (openD s).S = s := by
  have h64 : 64 * (s.size / 64) = s.size := by omega
  refine ⟨⟨by simp [openD, cutT_len]; omega, by simp [openD, cutT_len]; omega, cutT_64 (by omega), fun p hp => (by cases hp), by simp [openD]⟩, ?_⟩
  show catT (cutT s (s.size / 64)) = s
  rw [cutT_cat _ (by omega), h64]
  apply text_ext
  rw [extract_list]
  have : s.data.toList.length = s.size := by rw [Array.length_toList]; rfl
  rw [List.drop_zero, Nat.sub_zero, List.take_of_length_le (by omega)]

end Go.Proofs.Ytgffhnggocbjhaa
