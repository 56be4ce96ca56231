/- Layer 14: what Translate tells, and Until, over plain lists. -/
import Derived.Test.YtmegghgjllbamaaGreatDoorQIrHeld
import Derived.Test.YtmegghgjllbamaaGreatDoorQIrValuesW
namespace Go.Proofs.YtmegghgjllbamaaGreatDoor.Ir
open Go.RowKit
set_option linter.unusedVariables false
set_option maxRecDepth 100000
set_option linter.unusedSimpArgs false

/-- The Counts are the places. -/
theorem transF_c : ∀ (l : List Int) (k i : Nat) (m : Mi), (transF k l)[i]? = some m → m.c = ((k + i + 1 : Nat) : Int)
  | [], k, i, m, h => by simp [transF] at h
  | x :: l, k, i, m, h => by
    unfold transF at h
    split at h
    · cases i with
      | zero => simp at h; rw [← h]; simp
      | succ i =>
        have := transF_c l (k + 1) i m (by simpa using h)
        rw [this]; congr 1; omega
    · simp at h

theorem transF_len : ∀ (l : List Int) (k : Nat), (transF k l).length ≤ l.length
  | [], k => by simp [transF]
  | x :: l, k => by
    unfold transF
    split
    · have := transF_len l (k + 1); simp; omega
    · simp

theorem transV_len (l : List Int) : (transV l).length ≤ l.length ∧ (transV l).length ≤ 16 := by
  have := transF_len (l.take 16) 0
  rw [List.length_take] at this
  unfold transV
  omega

theorem fill_w (o s t d a i : Int) : Cp.W32 (fillV o s t d a i).m := by
  have md : ∀ z : Int, Cp.W32 (z % 4294967296) := fun z => ⟨Int.emod_nonneg _ (by decide), Int.emod_lt_of_pos _ (by decide)⟩
  unfold fillV
  repeat' split
  · exact md _
  · exact md _
  · exact Cp.w0
  · exact md _
  · exact Cp.w0

theorem opM_w (I : Ins) : Cp.W32 (opM I).m := by
  unfold opM
  by_cases hp : plB I = true
  · rw [if_pos hp]
    by_cases hd : (fillV I.o I.s I.t I.d I.a I.i).d = 0
    · rw [if_pos hd]; exact Cp.w0
    · rw [if_neg hd]; exact fill_w _ _ _ _ _ _
  · rw [if_neg hp]; exact Cp.w0

theorem transF_w : ∀ (l : List Int) (k : Nat), WordsM (transF k l)
  | [], k => fun i m h => by simp [transF] at h
  | x :: l, k => fun i m h => by
    unfold transF at h
    split at h
    · cases i with
      | zero =>
        simp at h
        rw [← h]
        exact opM_w (decV x)
      | succ i => exact transF_w l (k + 1) i m (by simpa using h)
    · simp at h

theorem transV_w (l : List Int) : WordsM (transV l) := transF_w _ _

theorem until_append (n : Int) : ∀ (a b : List Mi) (R : Nat → Int), untilV n (a ++ b) R = untilV n b (untilV n a R)
  | [], b, R => rfl
  | m :: a, b, R => by
    show untilV n (a ++ b) _ = untilV n b (untilV n a _)
    exact until_append n a b _

theorem until_all {n : Int} : ∀ (a : List Mi) (R : Nat → Int), (∀ (i : Nat) (m : Mi), a[i]? = some m → m.c ≤ n) → ∀ k, n ≤ k → untilV n a R = untilV k a R
  | [], R, _, k, _ => rfl
  | m :: a, R, h, k, hk => by
    have h0 : m.c ≤ n := h 0 m (by simp)
    unfold untilV
    rw [if_pos h0, if_pos (by omega)]
    exact until_all a _ (fun i m hi => h (i + 1) m (by simpa using hi)) k hk

theorem until_none {n : Int} : ∀ (a : List Mi) (R : Nat → Int), (∀ (i : Nat) (m : Mi), a[i]? = some m → n < m.c) → untilV n a R = R
  | [], R, _ => rfl
  | m :: a, R, h => by
    have h0 : n < m.c := h 0 m (by simp)
    unfold untilV
    rw [if_neg (by omega)]
    exact until_none a _ (fun i m hi => h (i + 1) m (by simpa using hi))

theorem behV_zero (m : Mi) (R : Nat → Int) : behV m R 0 = R 0 := by
  unfold behV
  split
  · rename_i h
    simp [wrB] at h
    unfold putR
    rw [if_neg (by omega)]
  · rfl

theorem until_zero (n : Int) : ∀ (a : List Mi) (R : Nat → Int), untilV n a R 0 = R 0
  | [], R => rfl
  | m :: a, R => by
    unfold untilV
    rw [until_zero n a]
    split
    · exact behV_zero m R
    · rfl

theorem putR_same {R : Nat → Int} (h : R 0 = 0) : putR R 0 0 = R := by
  funext j
  unfold putR
  split
  · rename_i e; rw [e, h]
  · rfl

/-- What the statement asks of registers. -/
theorem parts_eq (l : List Int) (R : Nat → Int) (h0 : R 0 = 0) (k : Nat) (hk : k ≤ (transV l).length) :
    untilV 9223372036854775807 ((transV l).drop k) (putR (untilV 9223372036854775807 ((transV l).take k) R) 0 0) = untilV 9223372036854775807 (transV l) R ∧
    untilV 0 (transV l) R = R ∧ untilV (k : Int) (transV l) R = untilV 9223372036854775807 ((transV l).take k) R := by
  have hc : ∀ (i : Nat) (m : Mi), (transV l)[i]? = some m → m.c = ((i + 1 : Nat) : Int) := fun i m h => by
    have := transF_c _ _ i m h
    rwa [Nat.zero_add] at this
  have hlen := (transV_len l).2
  refine ⟨?_, until_none _ _ fun i m h => by rw [hc i m h]; omega, ?_⟩
  · rw [putR_same (by rw [until_zero]; exact h0), ← until_append, List.take_append_drop]
  · rw [← List.take_append_drop k (transV l), until_append, List.take_append_drop]
    rw [until_none (n := (k : Int)) ((transV l).drop k) _ (fun i m h => by
      rw [List.getElem?_drop] at h
      rw [hc _ m h]; omega)]
    exact until_all _ _ (fun i m h => by
      have hlt : i < k := by
        have := (List.getElem?_eq_some_iff.1 h).1
        rw [List.length_take] at this
        omega
      rw [List.getElem?_take_of_lt hlt] at h
      rw [hc i m h]; omega) _ (by omega)

/-- The last operations of a slice that append made. -/
theorem own_drop {w : World} {B g n c : Nat} {l : List Mi} (h : w.ownsRow B 66 6 (.slice (some ⟨g, 0, none⟩) n c) l.length (flat l)) (k : Nat) (hk : k ≤ n) (c' : Nat) : IsOps w (.slice (some ⟨g, k * N6, none⟩) (n - k) c') (l.drop k) := by
  rcases ops_of_own h with ⟨a, c0, rfl, e⟩ | ⟨g', o, c0, e, hl, hg, hm⟩
  · cases e
    obtain rfl : k = 0 := by omega
    exact Or.inl ⟨_, _, rfl, rfl⟩
  · cases e
    refine Or.inr ⟨g, k * N6, c', by rw [List.length_drop], by rw [List.length_drop]; omega, hg, fun i m hi => ?_⟩
    rw [List.getElem?_drop] at hi
    have := hm _ m hi
    rw [show k * N6 + i * 6 = 0 + (k + i) * 6 by unfold N6; omega]
    exact this

theorem until_w {n : Int} : ∀ (a : List Mi), WordsM a → ∀ (R : Nat → Int), (∀ k, Cp.W32 (R k)) → ∀ k, Cp.W32 (untilV n a R k)
  | [], _, R, hR => hR
  | m :: a, h, R, hR => by
    unfold untilV
    refine until_w a (fun i m hi => h (i + 1) m (by simpa using hi)) _ ?_
    split
    · exact behV_w (h 0 m (by simp)) hR
    · exact hR

theorem wordsM_drop {l : List Mi} (h : WordsM l) (K : Nat) : WordsM (l.drop K) := fun i m hi => by
  rw [List.getElem?_drop] at hi
  exact h _ m hi

end Go.Proofs.YtmegghgjllbamaaGreatDoor.Ir
