/- Layer 19: what follows on a disk whose power is there: heads are read as they were laid; a change keeps the log sane. -/
import Derived.Test.YtgffhnggocbjhaaWpN
namespace Go.Proofs.Ytgffhnggocbjhaa
open Go.RowKit
set_option linter.unusedVariables false
set_option maxRecDepth 100000
set_option linter.unusedSimpArgs false

/-- A head is read as it was laid. -/
theorem numH_head {num : Nat} (h : num < 4294967296) (ks : List Int) (t : Nat) : numH (headT num ks t) = num := by
  have e : ∀ j, j < 62 → byteAt (headT num ks t) j = hdF num ks t j := fun j hj => byteAt_headT num ks t j hj
  unfold numH
  simp only [nb]
  rw [e 2 (by decide), e 3 (by decide), e 4 (by decide), e 5 (by decide)]
  simp only [hdF, Nat.reduceAdd, Nat.reduceSub, Nat.reduceLT, Nat.reducePow, Nat.reduceEqDiff, if_true, if_false, Nat.div_one]
  omega
theorem cntH_head (num : Nat) {ks : List Int} (h : ks.length ≤ 16) (t : Nat) : cntH (headT num ks t) = ks.length := by
  unfold cntH
  rw [byteAt_headT num ks t 6 (by decide)]
  simp only [hdF, Nat.reduceLT, Nat.reduceEqDiff, if_true, if_false]
  omega
theorem tH_head (num : Nat) (ks : List Int) {t : Nat} (h : t < 65536) : tH (headT num ks t) = t := by
  unfold tH
  simp only [nb]
  rw [byteAt_headT num ks t 39 (by decide), byteAt_headT num ks t (39 + 1) (by decide)]
  simp only [hdF, Nat.reduceAdd, Nat.reduceLT, Nat.reduceEqDiff, if_true, if_false]
  omega
theorem ksH_head (num : Nat) {ks : List Int} (h : ks.length ≤ 16) (hk : ∀ k ∈ ks, 0 ≤ k ∧ k < 65536) (t : Nat) : ksH (headT num ks t) = ks := by
  unfold ksH
  rw [cntH_head num h t]
  apply List.ext_getElem?
  intro i
  by_cases hi : i < ks.length
  · rw [List.getElem?_map, List.getElem?_range hi, List.getElem?_eq_getElem hi]
    obtain ⟨h1, h2⟩ := hdF_k num ks t i (by omega)
    have hm := hk _ (List.getElem_mem hi)
    rw [List.getD_eq_getElem?_getD, List.getElem?_eq_getElem hi, Option.getD_some] at h1 h2
    simp only [Option.map_some, Option.some.injEq, nb]
    rw [Nat.add_zero, byteAt_headT num ks t (7 + 2 * i) (by omega), byteAt_headT num ks t (7 + 2 * i + 1) (by omega), h1, h2]
    omega
  · rw [List.getElem?_eq_none (by simp; omega), List.getElem?_eq_none (by omega)]

theorem ks_small {own : Int} (ho : own ≤ 5000) {c : Cl} (hr : riseK own (c.map (·.1)) c.length = true) : ∀ k ∈ c.map (·.1), 0 ≤ k ∧ k < 65536 := fun k hk => by
  obtain ⟨p, hp, rfl⟩ := List.mem_map.1 hk
  obtain ⟨i, hi, hpi⟩ := List.getElem_of_mem hp
  have := rise_in hr i hi
  rw [getD_some (x := p.1) (by rw [List.getElem?_map, List.getElem?_eq_getElem hi, hpi]; rfl)] at this
  omega

/-- A head that a change has laid is right. -/
theorem right_head {own : Int} (ho : own ≤ 5000) {num : Nat} (h0 : num ≠ 0) (h : num < 4294967296) {c : Cl} (h16 : c.length ≤ 16) (hr : riseK own (c.map (·.1)) c.length = true) :
    rightB own (headC num c) (num % 2) = true ∧ numH (headC num c) = num ∧ ksH (headC num c) = c.map (·.1) ∧ cntH (headC num c) = c.length ∧ tH (headC num c) = sumC c := by
  have hl : (c.map (·.1)).length = c.length := List.length_map ..
  have e1 : numH (headC num c) = num := numH_head h _ _
  have e2 : cntH (headC num c) = c.length := (cntH_head num (by rw [hl]; exact h16) _).trans hl
  have e3 : tH (headC num c) = sumC c := tH_head num _ (sumC_lt c)
  have e4 : ksH (headC num c) = c.map (·.1) := ksH_head num (by rw [hl]; exact h16) (ks_small ho hr) _
  refine ⟨?_, e1, e4, e2, e3⟩
  unfold rightB
  rw [e1, e2, e3, e4, decide_eq_true h16, decide_eq_true h0, hr]
  have : headT num (c.map (·.1)) (sumC c) = headC num c := rfl
  simp [this]

/-- A disk where nothing is loose, and nothing armed. -/
def Q (S : List ByteArray) (m : Nat) (c : Crs) : Dk := ⟨S, [], 0, c, false, m⟩
def setsR (r : Cl) (S : List ByteArray) : List ByteArray := r.foldl (fun S p => S.set p.1.toNat p.2) S

theorem setsR_len (r : Cl) : ∀ S, (setsR r S).length = S.length := by
  induction r with
  | nil => intro S; rfl
  | cons p r ih => intro S; show (setsR r (S.set p.1.toNat p.2)).length = _; rw [ih, List.length_set]

theorem flushK_is (r : Cl) : ∀ (S : List ByteArray) (k : Nat), k ≤ r.length → flushK (r.map fun p => (p.1.toNat, p.2)) S k = setsR (r.take k) S := by
  intro S k
  induction k with
  | zero => intro _; rfl
  | succ k ih =>
    intro hk
    have hk' : k < r.length := hk
    rw [flushK, ih (by omega)]
    have e : (r.map fun p => (p.1.toNat, p.2)).getD k (0, T0) = (r[k].1.toNat, r[k].2) := getD_some (by rw [List.getElem?_map, List.getElem?_eq_getElem hk']; rfl)
    rw [e, List.take_add_one, List.getElem?_eq_getElem hk', Option.toList_some]
    unfold setsR
    rw [List.foldl_append]
    rfl

/-- Writes of a row, on a calm disk. -/
theorem run_writes {S : List ByteArray} {c : Crs} : ∀ (r : Cl) (L : List (Nat × ByteArray)) (m : Nat), (∀ p ∈ r, 0 ≤ p.1 ∧ p.1 < (S.length : Int) ∧ p.2.size = 64) →
    runL (r.map (fun p => Do.w p.1.toNat p.2)) ⟨S, L, 0, c, false, m⟩ = (⟨S, L ++ r.map (fun p => (p.1.toNat, p.2)), 0, c, false, m + r.length⟩, true)
  | [], L, m, _ => by simp [runL]
  | p :: r, L, m, h => by
    obtain ⟨h0, h1, h2⟩ := h p (by simp)
    have hE : (⟨S, L, 0, c, false, m⟩ : Dk).errAt ((p.1.toNat : Nat) : Int) = 0 := by
      unfold Dk.errAt
      rw [if_neg (show ¬ (false = true) from Bool.false_ne_true), if_neg (by show ¬ (_ ∨ (S.length : Int) ≤ _); omega)]
    have hW : Do.err (⟨S, L, 0, c, false, m⟩ : Dk) (.w p.1.toNat p.2) = 0 := by
      show Dk.errW _ _ _ = 0
      unfold Dk.errW
      rw [if_neg (by rw [hE]; decide), if_neg (by rw [h2]; decide), if_neg (show ¬ (0 = 1) by decide)]
    have hO : Do.on (⟨S, L, 0, c, false, m⟩ : Dk) (.w p.1.toNat p.2) = ⟨S, L ++ [(p.1.toNat, p.2)], 0, c, false, m + 1⟩ := by
      show Dk.wrote _ _ _ = _
      unfold Dk.wrote
      rw [if_neg (by rw [hE, h2]; decide), Int.toNat_natCast]
      unfold Dk.stepped
      rw [if_neg (show ¬ (0 = 1) by decide)]
      rfl
    rw [List.map_cons, runL, if_pos hW, hO, run_writes r _ _ (fun q hq => h q (by simp [hq]))]
    simp [List.append_assoc]
    omega

theorem run_doC {S : List ByteArray} {c : Crs} (r : Cl) (m : Nat) (h : ∀ p ∈ r, 0 ≤ p.1 ∧ p.1 < (S.length : Int) ∧ p.2.size = 64) : runL (doC r) (Q S m c) = (Q (setsR r S) (m + r.length + 1) c, true) := by
  unfold doC Q
  rw [runL_app, run_writes r [] m h]
  simp only [if_true, List.nil_append]
  rw [runL]
  have hF : Do.err (⟨S, r.map (fun p => (p.1.toNat, p.2)), 0, c, false, m + r.length⟩ : Dk) .f = 0 := by
    show Dk.errF _ = 0
    unfold Dk.errF
    rw [if_neg (by simp)]
  have hO : Do.on (⟨S, r.map (fun p => (p.1.toNat, p.2)), 0, c, false, m + r.length⟩ : Dk) .f = ⟨setsR r S, [], 0, c, false, m + r.length + 1⟩ := by
    show Dk.flush _ = _
    unfold Dk.flush Dk.stepped Dk.flushed
    simp only [if_false, Bool.false_eq_true, Nat.zero_ne_one]
    rw [List.length_map, flushK_is r S r.length (Nat.le_refl _), List.take_of_length_le (Nat.le_refl _)]
  rw [if_pos hF, hO]
  rfl

theorem told_Q {S : List ByteArray} {m : Nat} {c : Crs} {k : Nat} (h : k < S.length) : (Q S m c).told (k : Int) = S.getD k T0 := by
  unfold Dk.told
  rw [if_pos (errAt_live rfl h)]
  rfl

theorem getD_set (S : List ByteArray) (a : Nat) (x : ByteArray) (k : Nat) (h : a < S.length) : (S.set a x).getD k T0 = if k = a then x else S.getD k T0 := set_at k h

/-- What stands at a place behind a row of writes. -/
theorem setsR_far : ∀ (r : Cl) (S : List ByteArray) (k : Nat), (∀ p ∈ r, 0 ≤ p.1 ∧ p.1 < (S.length : Int)) → (∀ p ∈ r, p.1 ≠ (k : Int)) → (setsR r S).getD k T0 = S.getD k T0
  | [], S, k, _, _ => rfl
  | p :: r, S, k, h, hk => by
    obtain ⟨h0, h1⟩ := h p (by simp)
    show (setsR r (S.set p.1.toNat p.2)).getD k T0 = _
    rw [setsR_far r _ k (fun q hq => by rw [List.length_set]; exact h q (by simp [hq])) (fun q hq => hk q (by simp [hq])), getD_set S _ _ _ (by omega), if_neg (by have := hk p (by simp); omega)]
theorem setsR_at : ∀ (r : Cl) (S : List ByteArray) (i : Nat) (p : Int × ByteArray), (∀ p ∈ r, 0 ≤ p.1 ∧ p.1 < (S.length : Int)) → r[i]? = some p → (∀ j q, i < j → r[j]? = some q → q.1 ≠ p.1) → (setsR r S).getD p.1.toNat T0 = p.2
  | [], S, i, p, _, hi, _ => by simp at hi
  | q :: r, S, 0, p, h, hi, hd => by
    simp at hi
    subst hi
    obtain ⟨h0, h1⟩ := h q (by simp)
    show (setsR r (S.set q.1.toNat q.2)).getD q.1.toNat T0 = q.2
    rw [setsR_far r _ _ (fun x hx => by rw [List.length_set]; exact h x (by simp [hx])) (fun x hx => by
      obtain ⟨j, hj⟩ := List.getElem?_of_mem hx
      have := hd (j + 1) x (by omega) (by simpa using hj)
      omega), getD_set S _ _ _ (by omega), if_pos rfl]
  | q :: r, S, i + 1, p, h, hi, hd => by
    show (setsR r (S.set q.1.toNat q.2)).getD p.1.toNat T0 = p.2
    exact setsR_at r _ i p (fun x hx => by rw [List.length_set]; exact h x (by simp [hx])) (by simpa using hi) (fun j y hj hy => hd (j + 1) y (by omega) (by simpa using hy))
theorem setsR_64 : ∀ (r : Cl) (S : List ByteArray), (∀ s ∈ S, s.size = 64) → (∀ p ∈ r, p.2.size = 64) → ∀ s ∈ setsR r S, s.size = 64
  | [], S, h, _ => h
  | p :: r, S, h, hr => by
    show ∀ s ∈ setsR r (S.set p.1.toNat p.2), s.size = 64
    exact setsR_64 r _ (set_64 h (hr p (by simp))) (fun q hq => hr q (by simp [hq]))
/-- What is there already is written again. -/
theorem setsR_same : ∀ (r : Cl) (S : List ByteArray), (∀ p ∈ r, 0 ≤ p.1 ∧ p.1 < (S.length : Int) ∧ S.getD p.1.toNat T0 = p.2) → setsR r S = S
  | [], S, _ => rfl
  | p :: r, S, h => by
    obtain ⟨h0, h1, h2⟩ := h p (by simp)
    have e : S.set p.1.toNat p.2 = S := by rw [← h2]; exact set_getD (by omega)
    show setsR r (S.set p.1.toNat p.2) = S
    rw [e]
    exact setsR_same r S (fun q hq => h q (by simp [hq]))

/-- Rising cells are of sectors that differ. -/
theorem rise_lt {own : Int} {c : Cl} : ∀ {n : Nat}, riseK own (c.map (·.1)) n = true → ∀ i j p q, i < j → j < n → c[i]? = some p → c[j]? = some q → p.1 < q.1
  | 0, _, i, j, p, q, _, hj, _, _ => by omega
  | n + 1, h, i, j, p, q, hij, hj, hp, hq => by
    rw [riseK] at h
    simp only [Bool.and_eq_true, decide_eq_true_eq, Bool.or_eq_true] at h
    by_cases e : j = n
    · subst e
      have hlast : (c.map (·.1)).getD (j - 1) 0 < (c.map (·.1)).getD j 0 := by
        rcases h.2.2 with h2 | h2
        · omega
        · exact h2
      have hqg : (c.map (·.1)).getD j 0 = q.1 := getD_some (by rw [List.getElem?_map, hq]; rfl)
      have hj1 : j - 1 < c.length := by
        rcases Nat.lt_or_ge j c.length with h' | h'
        · omega
        · rw [List.getElem?_eq_none h'] at hq; cases hq
      obtain ⟨x, hx⟩ : ∃ x, c[j - 1]? = some x := ⟨c[j - 1], List.getElem?_eq_getElem hj1⟩
      have hxg : (c.map (·.1)).getD (j - 1) 0 = x.1 := getD_some (by rw [List.getElem?_map, hx]; rfl)
      rw [hqg, hxg] at hlast
      by_cases e2 : i = j - 1
      · subst e2
        rw [hp] at hx
        injection hx with hx
        rw [hx]
        exact hlast
      · have := rise_lt h.1 i (j - 1) p x (by omega) (by omega) hp hx
        omega
    · exact rise_lt h.1 i j p q hij (by omega) hp hq

end Go.Proofs.Ytgffhnggocbjhaa
