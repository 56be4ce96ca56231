/- Layer 19: what follows on a disk whose power is there: heads are read as they were laid; a change keeps the log sane. -/
import Derived.Test.YtgffhnggocbjhaaQWpN
namespace Go.Proofs.Ytgffhnggocbjhaa
open Go.RowKit
set_option linter.unusedVariables false
set_option maxRecDepth 100000
set_option linter.unusedSimpArgs false

/-- A head is read as it was laid. -/
theorem numH_head {num : Nat} (h : num < 4294967296) (ks : List Int) (t : Nat) : numH (headT num ks t) = num := by
  have e : ∀ j, j < 62 → byteAt (headT num ks t) j = hdF num ks t j := fun j hj => byteAt_headT num ks t j hj
  unfold numH
  simp only [nb]
  rw [e 2 (by decide), e 3 (by decide), e 4 (by decide), e 5 (by decide)]
  simp only [hdF, Nat.reduceAdd, Nat.reduceSub, Nat.reduceLT, Nat.reducePow, Nat.reduceEqDiff, if_true, if_false, Nat.div_one]
  omega
theorem cntH_head (num : Nat) {ks : List Int} (h : ks.length ≤ 16) (t : Nat) : cntH (headT num ks t) = ks.length := by
  unfold cntH
  rw [byteAt_headT num ks t 6 (by decide)]
  simp only [hdF, Nat.reduceLT, Nat.reduceEqDiff, if_true, if_false]
  omega
theorem tH_head (num : Nat) (ks : List Int) {t : Nat} (h : t < 65536) : tH (headT num ks t) = t := by
  unfold tH
  simp only [nb]
  rw [byteAt_headT num ks t 39 (by decide), byteAt_headT num ks t (39 + 1) (by decide)]
  simp only [hdF, Nat.reduceAdd, Nat.reduceLT, Nat.reduceEqDiff, if_true, if_false]
  omega
theorem ksH_head (num : Nat) {ks : List Int} (h : ks.length ≤ 16) (hk : ∀ k ∈ ks, 0 ≤ k ∧ k < 65536) (t : Nat) : ksH (headT num ks t) = ks := by
  unfold ksH
  rw [cntH_head num h t]
  apply List.ext_getElem?
  intro i
  by_cases hi : i < ks.length
  · rw [List.getElem?_map, List.getElem?_range hi, List.getElem?_eq_getElem hi]
    obtain ⟨h1, h2⟩ := hdF_k num ks t i (by omega)
    have hm := hk _ (List.getElem_mem hi)
    rw [List.getD_eq_getElem?_getD, List.getElem?_eq_getElem hi, Option.getD_some] at h1 h2
    simp only [Option.map_some, Option.some.injEq, nb]
    rw [Nat.add_zero, byteAt_headT num ks t (7 + 2 * i) (by omega), byteAt_headT num ks t (7 + 2 * i + 1) (by omega), h1, h2]
    omega
  · rw [List.getElem?_eq_none (by simp; omega), List.getElem?_eq_none (by omega)]

theorem ks_small {own : Int} (ho : own ≤ 5000) {c : Cl} (hr : riseK own (c.map (·.1)) c.length = true) : ∀ k ∈ c.map (·.1), 0 ≤ k ∧ k < 65536 := fun k hk => by
  obtain ⟨p, hp, rfl⟩ := List.mem_map.1 hk
  obtain ⟨i, hi, hpi⟩ := List.getElem_of_mem hp
  have := rise_in hr i hi
  rw [getD_some (x := p.1) (by rw [List.getElem?_map, List.getElem?_eq_getElem hi, hpi]; rfl)] at this
  omega

/-- A head that a change has laid is right. -/
theorem right_head {own : Int} (ho : own ≤ 5000) {num : Nat} (h0 : num ≠ 0) (h : num < 4294967296) {c : Cl} (h16 : c.length ≤ 16) (hr : riseK own (c.map (·.1)) c.length = true) :
    rightB own (headC num c) (num % 2) = true ∧ numH (headC num c) = num ∧ ksH (headC num c) = c.map (·.1) ∧ cntH (headC num c) = c.length ∧ tH (headC num c) = sumC c := by
  have hl : (c.map (·.1)).length = c.length := List.length_map ..
  have e1 : numH (headC num c) = num := numH_head h _ _
  have e2 : cntH (headC num c) = c.length := (cntH_head num (by rw [hl]; exact h16) _).trans hl
  have e3 : tH (headC num c) = sumC c := tH_head num _ (sumC_lt c)
  have e4 : ksH (headC num c) = c.map (·.1) := ksH_head num (by rw [hl]; exact h16) (ks_small ho hr) _
  refine ⟨?_, e1, e4, e2, e3⟩
  unfold rightB
  rw [e1, e2, e3, e4, decide_eq_true h16, decide_eq_true h0, hr]
  have : headT num (c.map (·.1)) (sumC c) = headC num c := rfl
  simp [this]

/-- A disk where nothing is loose, and nothing armed. -/
def Q (S : List ByteArray) (m : Nat) (c : Crs) : Dk := ⟨S, [], 0, c, false, m⟩
def setsR (r : Cl) (S : List ByteArray) : List ByteArray := r.foldl (fun S p => S.set p.1.toNat p.2) S

theorem setsR_len (r : Cl) : ∀ S, (setsR r S).length = S.length := by
  induction r with
  | nil => intro S; rfl
  | cons p r ih => intro S; show (setsR r (S.set p.1.toNat p.2)).length = _; rw [ih, List.length_set]

theorem flushK_is (r : Cl) : ∀ (S : List ByteArray) (k : Nat), k ≤ r.length → flushK (r.map fun p => (p.1.toNat, p.2)) S k = setsR (r.take k) S := by
  intro S k
  induction k with
  | zero => intro _; rfl
  | succ k ih =>
    intro hk
    have hk' : k < r.length := hk
    rw [flushK, ih (by omega)]
    have e : (r.map fun p => (p.1.toNat, p.2)).getD k (0, T0) = (r[k].1.toNat, r[k].2) := getD_some (by rw [List.getElem?_map, List.getElem?_eq_getElem hk']; rfl)
    rw [e, List.take_add_one, List.getElem?_eq_getElem hk', Option.toList_some]
    unfold setsR
    rw [List.foldl_append]
    rfl

/-- Writes of a row, on a calm disk. -/
theorem run_writes {S : List ByteArray} {c : Crs} : ∀ (r : Cl) (L : List (Nat × ByteArray)) (m : Nat), (∀ p ∈ r, 0 ≤ p.1 ∧ p.1 < (S.length : Int) ∧ p.2.size = 64) →
    runL (r.map (fun p => Do.w p.1.toNat p.2)) ⟨S, L, 0, c, false, m⟩ = (⟨S, L ++ r.map (fun p => (p.1.toNat, p.2)), 0, c, false, m + r.length⟩, true)
  | [], L, m, _ => by simp [runL]
  | p :: r, L, m, h => by
    obtain ⟨h0, h1, h2⟩ := h p (by simp)
    have hE : (⟨S, L, 0, c, false, m⟩ : Dk).errAt ((p.1.toNat : Nat) : Int) = 0 := by
      unfold Dk.errAt
      rw [if_neg (show ¬ (false = true) from Bool.false_ne_true), if_neg (by show ¬ (_ ∨ (S.length : Int) ≤ _); omega)]
    have hW : Do.err (⟨S, L, 0, c, false, m⟩ : Dk) (.w p.1.toNat p.2) = 0 := by
      show Dk.errW _ _ _ = 0
      unfold Dk.errW
      rw [if_neg (by rw [hE]; decide), if_neg (by rw [h2]; decide), if_neg (show ¬ (0 = 1) by decide)]
    have hO : Do.on (⟨S, L, 0, c, false, m⟩ : Dk) (.w p.1.toNat p.2) = ⟨S, L ++ [(p.1.toNat, p.2)], 0, c, false, m + 1⟩ := by
      show Dk.wrote _ _ _ = _
      unfold Dk.wrote
      rw [if_neg (by rw [hE, h2]; decide), Int.toNat_natCast]
      unfold Dk.stepped
      rw [if_neg (show ¬ (0 = 1) by decide)]
      rfl
    rw [List.map_cons, runL, if_pos hW, hO, run_writes r _ _ (fun q hq => h q (by simp [hq]))]
    simp [List.append_assoc]
    omega

theorem run_doC {S : List ByteArray} {c : Crs} (r : Cl) (m : Nat) (h : ∀ p ∈ r, 0 ≤ p.1 ∧ p.1 < (S.length : Int) ∧ p.2.size = 64) : runL (doC r) (Q S m c) = (Q (setsR r S) (m + r.length + 1) c, true) := by
  unfold doC Q
  rw [runL_app, run_writes r [] m h]
  simp only [if_true, List.nil_append]
  rw [runL]
  have hF : Do.err (⟨S, r.map (fun p => (p.1.toNat, p.2)), 0, c, false, m + r.length⟩ : Dk) .f = 0 := by
    show Dk.errF _ = 0
    unfold Dk.errF
    rw [if_neg (by simp)]
  have hO : Do.on (⟨S, r.map (fun p => (p.1.toNat, p.2)), 0, c, false, m + r.length⟩ : Dk) .f = ⟨setsR r S, [], 0, c, false, m + r.length + 1⟩ := by
    show Dk.flush _ = _
    unfold Dk.flush Dk.stepped Dk.flushed
    simp only [if_false, Bool.false_eq_true, Nat.zero_ne_one]
    rw [List.length_map, flushK_is r S r.length (Nat.le_refl _), List.take_of_length_le (Nat.le_refl _)]
  rw [if_pos hF, hO]
  rfl

theorem told_Q {S : List ByteArray} {m : Nat} {c : Crs} {k : Nat} (h : k < S.length) : (Q S m c).told (k : Int) = S.getD k T0 := by
  unfold Dk.told
  rw [if_pos (errAt_live rfl h)]
  rfl

theorem getD_set (S : List ByteArray) (a : Nat) (x : ByteArray) (k : Nat) (h : a < S.length) : (S.set a x).getD k T0 = if k = a then x else S.getD k T0 := set_at k h

/-- What stands at a place behind a row of writes. -/
theorem setsR_far : ∀ (r : Cl) (S : List ByteArray) (k : Nat), (∀ p ∈ r, 0 ≤ p.1 ∧ p.1 < (S.length : Int)) → (∀ p ∈ r, p.1 ≠ (k : Int)) → (setsR r S).getD k T0 = S.getD k T0
  | [], S, k, _, _ => rfl
  | p :: r, S, k, h, hk => by
    obtain ⟨h0, h1⟩ := h p (by simp)
    show (setsR r (S.set p.1.toNat p.2)).getD k T0 = _
    rw [setsR_far r _ k (fun q hq => by rw [List.length_set]; exact h q (by simp [hq])) (fun q hq => hk q (by simp [hq])), getD_set S _ _ _ (by omega), if_neg (by have := hk p (by simp); omega)]
theorem setsR_at : ∀ (r : Cl) (S : List ByteArray) (i : Nat) (p : Int × ByteArray), (∀ p ∈ r, 0 ≤ p.1 ∧ p.1 < (S.length : Int)) → r[i]? = some p → (∀ j q, i < j → r[j]? = some q → q.1 ≠ p.1) → (setsR r S).getD p.1.toNat T0 = p.2
  | [], S, i, p, _, hi, _ => by simp at hi
  | q :: r, S, 0, p, h, hi, hd => by
    simp at hi
    subst hi
    obtain ⟨h0, h1⟩ := h q (by simp)
    show (setsR r (S.set q.1.toNat q.2)).getD q.1.toNat T0 = q.2
    rw [setsR_far r _ _ (fun x hx => by rw [List.length_set]; exact h x (by simp [hx])) (fun x hx => by
      obtain ⟨j, hj⟩ := List.getElem?_of_mem hx
      have := hd (j + 1) x (by omega) (by simpa using hj)
      omega), getD_set S _ _ _ (by omega), if_pos rfl]
  | q :: r, S, i + 1, p, h, hi, hd => by
    show (setsR r (S.set q.1.toNat q.2)).getD p.1.toNat T0 = p.2
    exact setsR_at r _ i p (fun x hx => by rw [List.length_set]; exact h x (by simp [hx])) (by simpa using hi) (fun j y hj hy => hd (j + 1) y (by omega) (by simpa using hy))
theorem setsR_64 : ∀ (r : Cl) (S : List ByteArray), (∀ s ∈ S, s.size = 64) → (∀ p ∈ r, p.2.size = 64) → ∀ s ∈ setsR r S, s.size = 64
  | [], S, h, _ => h
  | p :: r, S, h, hr => by
    show ∀ s ∈ setsR r (S.set p.1.toNat p.2), s.size = 64
    exact setsR_64 r _ (set_64 h (hr p (by simp))) (fun q hq => hr q (by simp [hq]))
/-- What is there already is written again. -/
theorem setsR_same : ∀ (r : Cl) (S : List ByteArray), (∀ p ∈ r, 0 ≤ p.1 ∧ p.1 < (S.length : Int) ∧ S.getD p.1.toNat T0 = p.2) → setsR r S = S
  | [], S, _ => rfl
  | p :: r, S, h => by
    obtain ⟨h0, h1, h2⟩ := h p (by simp)
    have e : S.set p.1.toNat p.2 = S := by rw [← h2]; exact set_getD (by omega)
    show setsR r (S.set p.1.toNat p.2) = S
    rw [e]
    exact setsR_same r S (fun q hq => h q (by simp [hq]))

/-- Rising cells are of sectors that differ. -/
theorem rise_lt {own : Int} {c : Cl} : ∀ {n : Nat}, riseK own (c.map (·.1)) n = true → ∀ i j p q, i < j → j < n → c[i]? = some p → c[j]? = some q → p.1 < q.1
  | 0, _, i, j, p, q, _, hj, _, _ => by omega
  | n + 1, h, i, j, p, q, hij, hj, hp, hq => by
    rw [riseK] at h
    simp only [Bool.and_eq_true, decide_eq_true_eq, Bool.or_eq_true] at h
    by_cases e : j = n
    · subst e
      have hlast : (c.map (·.1)).getD (j - 1) 0 < (c.map (·.1)).getD j 0 := by
        rcases h.2.2 with h2 | h2
        · omega
        · exact h2
      have hqg : (c.map (·.1)).getD j 0 = q.1 := getD_some (by rw [List.getElem?_map, hq]; rfl)
      have hj1 : j - 1 < c.length := by
        rcases Nat.lt_or_ge j c.length with h' | h'
        · omega
        · rw [List.getElem?_eq_none h'] at hq; cases hq
      obtain ⟨x, hx⟩ : ∃ x, c[j - 1]? = some x := ⟨c[j - 1], List.getElem?_eq_getElem hj1⟩
      have hxg : (c.map (·.1)).getD (j - 1) 0 = x.1 := getD_some (by rw [List.getElem?_map, hx]; rfl)
      rw [hqg, hxg] at hlast
      by_cases e2 : i = j - 1
      · subst e2
        rw [hp] at hx
        injection hx with hx
        rw [hx]
        exact hlast
      · have := rise_lt h.1 i (j - 1) p x (by omega) (by omega) hp hx
        omega
    · exact rise_lt h.1 i j p q hij (by omega) hp hq

end Go.Proofs.Ytgffhnggocbjhaa

/- Layer 19: a sane log: opened, it is the same; behind a change it is sane. -/
namespace Go.Proofs.Ytgffhnggocbjhaa
open Go.RowKit
set_option linter.unusedVariables false
set_option maxRecDepth 100000
set_option linter.unusedSimpArgs false

/-- What a head at a place tells: its number, 0 if it is not right. -/
def numS (N : Nat) (s : ByteArray) (place : Nat) : Nat := if rightB ((N : Int) - 34) s place then numH s else 0

/-- Sectors of a log whose last change has the number n and the cells c. -/
structure San (S : List ByteArray) (n : Nat) (c : Cl) : Prop where
  h42 : 42 ≤ S.length
  h40 : S.length ≤ 4034
  s64 : ∀ s ∈ S, s.size = 64
  n1 : 1 ≤ n
  n32 : n < 4294967296
  c16 : c.length ≤ 16
  c64 : ∀ p ∈ c, p.2.size = 64
  rise : riseK ((S.length : Int) - 34) (c.map (·.1)) c.length = true
  head : S.getD (n % 2) T0 = headC n c
  other : numS S.length (S.getD ((n + 1) % 2) T0) ((n + 1) % 2) < n
  room : ∀ i p, c[i]? = some p → S.getD (2 + 16 * (n % 2) + i) T0 = p.2
  home : ∀ p ∈ c, S.getD (34 + p.1.toNat) T0 = p.2

theorem San.own {S : List ByteArray} {n : Nat} {c : Cl} (h : San S n c) : ∀ p ∈ c, 0 ≤ p.1 ∧ p.1 < (S.length : Int) - 34 := fun p hp => by
  obtain ⟨i, hi, hpi⟩ := List.getElem_of_mem hp
  have := rise_in h.rise i hi
  rw [getD_some (x := p.1) (by rw [List.getElem?_map, List.getElem?_eq_getElem hi, hpi]; rfl)] at this
  exact this

theorem numAt_Q {S : List ByteArray} {m : Nat} {cr : Crs} {k : Nat} (h : k < S.length) : numAt (Q S m cr) k = numS S.length (S.getD k T0) k := by
  unfold numAt rightH
  rw [told_Q h]
  rfl

/-- Opened, it is the same. -/
theorem San.best {S : List ByteArray} {n : Nat} {c : Cl} (h : San S n c) (m : Nat) (cr : Crs) : bestP (Q S m cr) = n % 2 ∧ bestN (Q S m cr) = n ∧ bestC (Q S m cr) = c ∧ bestS (Q S m cr) = true := by
  have h42 := h.h42
  obtain ⟨r1, r2, r3, r4, r5⟩ := right_head (own := (S.length : Int) - 34) (by have := h.h40; omega) (by have := h.n1; omega) h.n32 h.c16 h.rise
  have e1 : numAt (Q S m cr) (n % 2) = n := by
    rw [numAt_Q (by omega), h.head]
    unfold numS
    rw [r1, if_pos rfl, r2]
  have e2 : numAt (Q S m cr) ((n + 1) % 2) < n := by
    rw [numAt_Q (by omega)]
    exact h.other
  have eP : bestP (Q S m cr) = n % 2 := by
    unfold bestP
    rcases (show n % 2 = 0 ∨ n % 2 = 1 by omega) with h0 | h1
    · rw [h0] at e1 ⊢
      rw [show (n + 1) % 2 = 1 by omega] at e2
      rw [if_neg (by omega)]
    · rw [h1] at e1 ⊢
      rw [show (n + 1) % 2 = 0 by omega] at e2
      rw [if_pos (by omega)]
  have eN : bestN (Q S m cr) = n := by unfold bestN; rw [eP]; exact e1
  have eT : (Q S m cr).told ((n % 2 : Nat) : Int) = headC n c := by rw [told_Q (by omega), h.head]
  have eC : bestC (Q S m cr) = c := by
    unfold bestC cellsH
    rw [eP, eT, r4]
    apply List.ext_getElem?
    intro i
    by_cases hi : i < c.length
    · rw [List.getElem?_map, List.getElem?_range hi, List.getElem?_eq_getElem hi]
      have hk : (ksH (headC n c))[i]? = some c[i].1 := by rw [r3, List.getElem?_map, List.getElem?_eq_getElem hi]; rfl
      unfold ksH at hk
      rw [r4, List.getElem?_map, List.getElem?_range hi] at hk
      injection hk with hk
      have hr := h.room i c[i] (List.getElem?_eq_getElem hi)
      replace hk : ((nb (headC n c) (7 + 2 * i) 2 : Nat) : Int) = c[i].1 := hk
      show some (((nb (headC n c) (7 + 2 * i) 2 : Nat) : Int), _) = _
      rw [hk, told_Q (by have := h.c16; omega), hr]
    · rw [List.getElem?_eq_none (by simp; omega), List.getElem?_eq_none (by omega)]
  refine ⟨eP, eN, eC, ?_⟩
  unfold bestS
  rw [eP, eT, eC, r5]
  simp

theorem San.fits {S : List ByteArray} {n : Nat} {c : Cl} (h : San S n c) (m : Nat) (cr : Crs) : (Q S m cr).fits = true := by
  unfold Dk.fits
  rw [Bool.and_eq_true, decide_eq_true_eq, decide_eq_true_eq]
  exact ⟨h.h42, h.h40⟩
theorem San.good {S : List ByteArray} {n : Nat} {c : Cl} (h : San S n c) (m : Nat) (cr : Crs) : (Q S m cr).Good :=
  ⟨by show 1 ≤ S.length; have := h.h42; omega, by show S.length ≤ 4096; have := h.h40; omega, h.s64, (fun p hp => by cases hp), by show 0 < 9223372036854775808; decide⟩

theorem place_ok {c : Cl} {N : Nat} (ho : ∀ p ∈ c, 0 ≤ p.1 ∧ p.1 < (N : Int) - 34) (h64 : ∀ p ∈ c, p.2.size = 64) : ∀ p ∈ placeC c, 0 ≤ p.1 ∧ p.1 < (N : Int) ∧ p.2.size = 64 := fun p hp => by
  obtain ⟨q, hq, rfl⟩ := List.mem_map.1 hp
  have := ho q hq
  exact ⟨by show 0 ≤ 34 + q.1; omega, by show 34 + q.1 < _; omega, h64 q hq⟩

theorem San.opens {S : List ByteArray} {n : Nat} {c : Cl} (h : San S n c) (m : Nat) (cr : Crs) : openE (Q S m cr) = 0 ∧ openN (Q S m cr) = Q S (m + c.length + 1) cr := by
  obtain ⟨eP, eN, eC, eS⟩ := h.best m cr
  have hn0 : ¬ bestN (Q S m cr) = 0 := by rw [eN]; have := h.n1; omega
  have hrun : runL (homeD c) (Q S m cr) = (Q S (m + c.length + 1) cr, true) := by
    rw [homeD_is (fun p hp => (h.own p hp).1), run_doC _ _ (place_ok h.own h.c64), placeC_len, setsR_same]
    intro p hp
    have h3 := place_ok h.own h.c64 p hp
    obtain ⟨q, hq, rfl⟩ := List.mem_map.1 hp
    have h2 := h.own q hq
    refine ⟨h3.1, h3.2.1, ?_⟩
    have := h.home q hq
    rw [show (34 + q.1).toNat = 34 + q.1.toNat by omega]
    exact this
  constructor
  · unfold openE
    rw [if_neg (by rw [h.fits]; decide), if_neg (show ¬ (Q S m cr).dead = true from Bool.false_ne_true), if_neg hn0, if_neg (by rw [eS]; decide), eC, hrun]
    rfl
  · unfold openN
    rw [if_neg (fun hh => by
      rcases hh with h1 | h1 | h1 | h1
      · rw [h.fits] at h1; cases h1
      · cases h1
      · exact hn0 h1
      · rw [eS] at h1; cases h1), eC, hrun]

/-- The sectors behind a change. -/
def nextS (S : List ByteArray) (num : Nat) (c : Cl) : List ByteArray := setsR (placeC c) (setsR [(((num % 2 : Nat) : Int), headC num c)] (setsR (roomC num c) S))
theorem nextS_len (S : List ByteArray) (num : Nat) (c : Cl) : (nextS S num c).length = S.length := by unfold nextS; rw [setsR_len, setsR_len, setsR_len]

theorem room_in {num : Nat} {c : Cl} {p : Int × ByteArray} (h : p ∈ roomC num c) : ∃ i, i < c.length ∧ p.1 = ((2 + 16 * (num % 2) + i : Nat) : Int) ∧ p.2 = (c.getD i (0, T0)).2 := by
  obtain ⟨i, hi, rfl⟩ := List.mem_map.1 h
  exact ⟨i, List.mem_range.1 hi, rfl, rfl⟩

theorem San.next {S : List ByteArray} {n : Nat} {c0 : Cl} (h : San S n c0) {c : Cl} (hn : n < 4294967295) (h16 : c.length ≤ 16) (h64 : ∀ p ∈ c, p.2.size = 64) (hr : riseK ((S.length : Int) - 34) (c.map (·.1)) c.length = true) (m : Nat) (cr : Crs) :
    runL (changeD (n + 1) c) (Q S m cr) = (Q (nextS S (n + 1) c) (m + 2 * c.length + 4) cr, true) ∧ San (nextS S (n + 1) c) (n + 1) c ∧
      ∀ j, j + 34 < S.length → (nextS S (n + 1) c).getD (34 + j) T0 = (setsR c (S.drop 34)).getD j T0 := by
  have h42 := h.h42
  have ho : ∀ p ∈ c, 0 ≤ p.1 ∧ p.1 < (S.length : Int) - 34 := fun p hp => by
    obtain ⟨i, hi, hpi⟩ := List.getElem_of_mem hp
    have := rise_in hr i hi
    rw [getD_some (x := p.1) (by rw [List.getElem?_map, List.getElem?_eq_getElem hi, hpi]; rfl)] at this
    exact this
  obtain ⟨num, hnum⟩ : ∃ num, num = n + 1 := ⟨_, rfl⟩
  rw [← hnum]
  have hl1 : (setsR (roomC num c) S).length = S.length := setsR_len _ _
  have hl2 : (setsR [(((num % 2 : Nat) : Int), headC num c)] (setsR (roomC num c) S)).length = S.length := by rw [setsR_len, hl1]
  have k1 : ∀ p ∈ roomC num c, 0 ≤ p.1 ∧ p.1 < (S.length : Int) ∧ p.2.size = 64 := fun p hp => by
    obtain ⟨i, hi, e1, e2⟩ := room_in hp
    exact ⟨by omega, by omega, by rw [e2]; exact h64 _ (getD_mem hi)⟩
  have k2 : ∀ p ∈ [(((num % 2 : Nat) : Int), headC num c)], 0 ≤ p.1 ∧ p.1 < (S.length : Int) ∧ p.2.size = 64 := fun p hp => by
    simp only [List.mem_singleton] at hp
    subst hp
    exact ⟨by show (0 : Int) ≤ ((num % 2 : Nat) : Int); omega, by show ((num % 2 : Nat) : Int) < _; omega, headT_size _ _ _⟩
  have k3 := place_ok ho h64
  have hrun : runL (changeD num c) (Q S m cr) = (Q (nextS S num c) (m + 2 * c.length + 4) cr, true) := by
    rw [rows_all (fun p hp => (ho p hp).1)]
    unfold rowsC
    simp only [List.flatMap_cons, List.flatMap_nil, List.append_nil]
    rw [runL_on (run_doC _ m k1), runL_on (run_doC _ _ (by rw [hl1]; exact k2)), run_doC _ _ (by rw [hl2]; exact k3), roomC_len, placeC_len]
    unfold nextS
    congr 2
    simp
    omega
  -- what stands where
  have far3 : ∀ k, k < 34 → (nextS S num c).getD k T0 = (setsR [(((num % 2 : Nat) : Int), headC num c)] (setsR (roomC num c) S)).getD k T0 := fun k hk => by
    unfold nextS
    exact setsR_far _ _ k (fun p hp => by rw [hl2]; exact ⟨(k3 p hp).1, (k3 p hp).2.1⟩) (fun p hp => by
      obtain ⟨q, hq, rfl⟩ := List.mem_map.1 hp
      have := ho q hq
      show 34 + q.1 ≠ _
      omega)
  have head2 : ∀ k, (setsR [(((num % 2 : Nat) : Int), headC num c)] (setsR (roomC num c) S)).getD k T0 = if k = num % 2 then headC num c else (setsR (roomC num c) S).getD k T0 := fun k => by
    show ((setsR (roomC num c) S).set ((num % 2 : Nat) : Int).toNat (headC num c)).getD k T0 = _
    rw [Int.toNat_natCast, getD_set _ _ _ _ (by rw [hl1]; omega)]
  have far1 : ∀ k, (∀ i, i < c.length → k ≠ 2 + 16 * (num % 2) + i) → (setsR (roomC num c) S).getD k T0 = S.getD k T0 := fun k hk => setsR_far _ _ k (fun p hp => ⟨(k1 p hp).1, (k1 p hp).2.1⟩) (fun p hp => by
    obtain ⟨i, hi, e1, -⟩ := room_in hp
    have := hk i hi
    omega)
  have at1 : ∀ i p, c[i]? = some p → (setsR (roomC num c) S).getD (2 + 16 * (num % 2) + i) T0 = p.2 := fun i p hp => by
    have := setsR_at (roomC num c) S i _ (fun p hp => ⟨(k1 p hp).1, (k1 p hp).2.1⟩) (roomC_at num hp) (fun j q hij hq => by
      have hq2 := List.mem_of_getElem? hq
      have hj : j < (roomC num c).length := by
        rcases Nat.lt_or_ge j (roomC num c).length with h' | h'
        · exact h'
        · rw [List.getElem?_eq_none h'] at hq; cases hq
      rw [roomC_len] at hj
      rw [roomC_at num (List.getElem?_eq_getElem hj)] at hq
      injection hq with hq
      subst hq
      show ((2 + 16 * (num % 2) + j : Nat) : Int) ≠ ((2 + 16 * (num % 2) + i : Nat) : Int)
      omega)
    rwa [Int.toNat_natCast] at this
  have ilt : ∀ i p, c[i]? = some p → i < c.length := fun i p hp => by
    rcases Nat.lt_or_ge i c.length with h' | h'
    · exact h'
    · rw [List.getElem?_eq_none h'] at hp; cases hp
  have at3 : ∀ (i : Nat) (p : Int × ByteArray), c[i]? = some p → (nextS S num c).getD (34 + p.1.toNat) T0 = p.2 := fun i p hp => by
    have h0 := ho p (List.mem_of_getElem? hp)
    have := setsR_at (placeC c) (setsR [(((num % 2 : Nat) : Int), headC num c)] (setsR (roomC num c) S)) i (34 + p.1, p.2) (fun p hp => by rw [hl2]; exact ⟨(k3 p hp).1, (k3 p hp).2.1⟩) (by unfold placeC; rw [List.getElem?_map, hp]; rfl) (fun j q hij hq => by
      unfold placeC at hq
      rw [List.getElem?_map] at hq
      cases hcj : c[j]? with
      | none => rw [hcj] at hq; cases hq
      | some x =>
        rw [hcj] at hq
        injection hq with hq
        subst hq
        have := rise_lt hr i j p x hij (ilt j x hcj) hp hcj
        show 34 + x.1 ≠ 34 + p.1
        omega)
    rw [show (34 + p.1).toNat = 34 + p.1.toNat by omega] at this
    exact this
  have hS : San (nextS S num c) num c := by
    refine ⟨by rw [nextS_len]; exact h42, by rw [nextS_len]; exact h.h40, ?_, by omega, by omega, h16, h64, by rw [nextS_len]; exact hr, ?_, ?_, ?_, ?_⟩
    · unfold nextS
      exact setsR_64 _ _ (setsR_64 _ _ (setsR_64 _ _ h.s64 (fun p hp => (k1 p hp).2.2)) (fun p hp => (k2 p hp).2.2)) (fun p hp => (k3 p hp).2.2)
    · rw [far3 _ (by omega), head2, if_pos rfl]
    · rw [nextS_len, far3 _ (by omega), head2, if_neg (by omega), far1 _ (fun i hi => by omega), show (num + 1) % 2 = n % 2 by omega, h.head]
      unfold numS
      split
      · have : numH (headC n c0) = n := numH_head h.n32 _ _
        omega
      · omega
    · intro i p hp
      have := ilt i p hp
      rw [far3 _ (by omega), head2, if_neg (by omega)]
      exact at1 i p hp
    · intro p hp
      obtain ⟨i, hi⟩ := List.getElem?_of_mem hp
      exact at3 i p hi
  refine ⟨hrun, hS, fun j hj => ?_⟩
  by_cases hex : ∃ (i : Nat) (p : Int × ByteArray), c[i]? = some p ∧ p.1 = (j : Int)
  · obtain ⟨i, p, hp, hpj⟩ := hex
    have e1 := at3 i p hp
    rw [show p.1.toNat = j by omega] at e1
    have e2 := setsR_at c (S.drop 34) i p (fun q hq => by have := ho q hq; rw [List.length_drop]; omega) hp (fun k q hik hq => by have := rise_lt hr i k p q hik (ilt k q hq) hp hq; omega)
    rw [show p.1.toNat = j by omega] at e2
    rw [e1, e2]
  · have hno : ∀ p ∈ c, p.1 ≠ (j : Int) := fun p hp e => by
      obtain ⟨i, hi⟩ := List.getElem?_of_mem hp
      exact hex ⟨i, p, hi, e⟩
    have e1 : (nextS S num c).getD (34 + j) T0 = S.getD (34 + j) T0 := by
      unfold nextS
      rw [setsR_far _ _ _ (fun p hp => by rw [hl2]; exact ⟨(k3 p hp).1, (k3 p hp).2.1⟩) (fun p hp => by
        obtain ⟨q, hq, rfl⟩ := List.mem_map.1 hp
        have := hno q hq
        show 34 + q.1 ≠ _
        omega), head2, if_neg (by omega), far1 _ (fun i hi => by omega)]
    rw [e1, setsR_far c (S.drop 34) j (fun q hq => by have := ho q hq; rw [List.length_drop]; omega) hno]
    rw [List.getD_eq_getElem?_getD, List.getD_eq_getElem?_getD, List.getElem?_drop]

end Go.Proofs.Ytgffhnggocbjhaa
