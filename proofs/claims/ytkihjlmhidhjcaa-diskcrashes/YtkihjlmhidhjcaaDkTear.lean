/- Layer 18: the statement's own reckoning behind a crash. -/
import Derived.Test.YtkihjlmhidhjcaaDkCalm
import Derived.Test.YtkihjlmhidhjcaaDkOpen
import Derived.Test.YtkihjlmhidhjcaaDkSector
namespace Go.Proofs.Ytkihjlmhidhjcaa
open Go.RowKit
set_option linter.unusedVariables false
set_option maxRecDepth 100000
set_option linter.unusedSimpArgs false

/-- Which sector a write of the script is to, and with what. -/
def lwN (ns : Nat) (o : Dc) : Nat := ((bits .and .i64 o.n 65535).tmod (ns : Int)).toNat
def lw (ns : Nat) (o : Dc) : Nat × ByteArray := (lwN ns o, secT o.f.toNat 0)

theorem lwN_is (ns : Nat) (h : 1 ≤ ns) (o : Dc) : lwN ns o < ns ∧ (bits .and .i64 o.n 65535).tmod (ns : Int) = (lwN ns o : Int) := by
  obtain ⟨j, hj, e⟩ := mod_at o.n ns h
  unfold lwN
  rw [e]
  exact ⟨hj, rfl⟩

/-- Is a sector as it was, or as one of the first i loose writes of it? -/
def whK (X W : ByteArray) (L : List (Nat × ByteArray)) (s : Nat) : Nat → Bool
  | 0 => X.toList == W.toList
  | i + 1 => whK X W L s i || (decide ((L.getD i (0, T0)).1 = s) && (X.toList == (L.getD i (0, T0)).2.toList))

theorem eq_of_toList {a b : ByteArray} (h : (a.toList == b.toList) = true) : a = b := by
  have h1 : a.toList = b.toList := by simpa using h
  rw [Go.Lib.toList_data, Go.Lib.toList_data] at h1
  exact text_ext h1

theorem whK_false {X W : ByteArray} {L : List (Nat × ByteArray)} {s : Nat} : ∀ {i : Nat}, whK X W L s i = false → X ≠ W ∧ ∀ j, j < i → (L.getD j (0, T0)).1 = s → X ≠ (L.getD j (0, T0)).2
  | 0, h => ⟨fun e => by subst e; simp [whK] at h, fun j hj => by omega⟩
  | i + 1, h => by
    unfold whK at h
    rw [Bool.or_eq_false_iff] at h
    obtain ⟨h1, h2⟩ := whK_false h.1
    refine ⟨h1, fun j hj hs => ?_⟩
    by_cases e : j = i
    · subst e
      intro hx
      have := h.2
      rw [hs, ← hx] at this
      simp at this
    · exact h2 j (by omega) hs

/-- What is not whole is the torn one. -/
theorem torn_one {c : Crs} {L : List (Nat × ByteArray)} {S : List ByteArray} (hS : ∀ s ∈ S, s.size = 64) (hL : ∀ p ∈ L, p.1 < S.length ∧ p.2.size = 64) {s : Nat}
    (h : whK ((crashK c L S L.length).getD s T0) (S.getD s T0) L s L.length = false) :
    ∃ t : Nat, t < L.length ∧ c.torn = (t : Int) ∧ (L.getD t (0, T0)).1 = s ∧ ((crashK c L S L.length).getD s T0).extract 0 (cutN c.bytes) = (L.getD t (0, T0)).2.extract 0 (cutN c.bytes) := by
  obtain ⟨h1, h2⟩ := whK_false h
  rcases crash_ways (c := c) hS hL s L.length (Nat.le_refl _) with (h3 | ⟨i, hi, hs, hx⟩) | h3
  · exact (h1 h3).elim
  · exact (h2 i hi hs hx).elim
  · exact h3

theorem lw_at {ns : Nat} {lo : List Dc} {i : Nat} {o : Dc} (h : lo[i]? = some o) {k : Nat} (hi : i < k) : ((lo.take k).map (lw ns)).getD i (0, T0) = lw ns o :=
  getD_some (by rw [List.getElem?_map, List.getElem?_take_of_lt hi, h]; rfl)

end Go.Proofs.Ytkihjlmhidhjcaa
