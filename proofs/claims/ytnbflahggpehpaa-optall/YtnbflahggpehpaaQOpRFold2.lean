/- Layer 15: the document's Fold makes what the program's does, of operations that may be. -/
import Derived.Test.YtnbflahggpehpaaQOpRFold
namespace Go.Proofs.Ytnbflahggpehpaa.Ir
open Go.RowKit
set_option linter.unusedVariables false
set_option maxRecDepth 100000
set_option linter.unusedSimpArgs false

/-- What is known behind operations. -/
def KD (out : List Mi) : Nat → Option Int := fun n => if (knowD (n : Int) out).2 = true then some (knowD (n : Int) out).1 else none

theorem kd_nil : KD [] = K0 := by
  funext n
  by_cases h : n = 0
  · subst h; rfl
  · have e : knowD (n : Int) [] = (0, false) := by unfold knowD; rw [if_neg (by omega)]; rfl
    show (if (knowD (n : Int) []).2 = true then some (knowD (n : Int) []).1 else none) = if n = 0 then some 0 else none
    rw [e, if_neg h]
    rfl

theorem know_snoc (n : Int) (hn : ¬ n = 0) (out : List Mi) (m : Mi) : knowD n (out ++ [m]) = if ¬ m.k = 0 ∧ m.d = n then (m.m, m.k == 1) else knowD n out := by
  unfold knowD
  rw [if_neg hn, if_neg hn, List.reverse_append]
  rfl

theorem know_zero (out : List Mi) : knowD 0 out = (0, true) := by unfold knowD; rw [if_pos rfl]

theorem kd_snoc (out : List Mi) {m : Mi} (hs : soundB m = true) : KD (out ++ [m]) = fdK (KD out) m := by
  funext n
  by_cases hn : n = 0
  · subst hn
    have e1 : KD (out ++ [m]) 0 = some 0 := by unfold KD; rw [show ((0 : Nat) : Int) = 0 from rfl, know_zero]; rfl
    have e2 : KD out 0 = some 0 := by unfold KD; rw [show ((0 : Nat) : Int) = 0 from rfl, know_zero]; rfl
    rw [e1]
    unfold fdK
    split
    · rename_i hw
      have := wrB_iff.1 hw
      unfold putK
      rw [if_neg (by omega), e2]
    · rw [e2]
  · have hn' : ¬ (n : Int) = 0 := by omega
    have e := know_snoc (n : Int) hn' out m
    show (if (knowD (n : Int) (out ++ [m])).2 = true then some (knowD (n : Int) (out ++ [m])).1 else none) = _
    by_cases h : ¬ m.k = 0 ∧ m.d = (n : Int)
    · rw [if_pos h] at e
      have hw := sound_wr hs h.1
      have e2 : fdK (KD out) m n = if m.k = 1 then some m.m else none := by
        unfold fdK
        rw [if_pos hw]
        unfold putK
        rw [if_pos (by have := h.2; omega)]
      rw [e, e2]
      by_cases e3 : m.k = 1
      · simp [e3]
      · simp [e3]
    · rw [if_neg h] at e
      have e2 : fdK (KD out) m n = KD out n := by
        unfold fdK
        split
        · rename_i hw
          have := wrB_iff.1 hw
          unfold putK
          rw [if_neg (fun hh => h ⟨by omega, by omega⟩)]
        · rfl
      rw [e, e2]
      rfl

theorem mean_kd (out : List Mi) {n imm : Int} (h : oprB n = true) : mnK (KD out) n imm = if (meanD n imm out).2 = true then some (meanD n imm out).1 else none := by
  have hb := oprB_iff.1 h
  unfold mnK meanD
  by_cases e : n = 32
  · rw [if_pos e, if_pos e]; rfl
  · rw [if_neg e, if_neg e, if_pos (regB_iff.2 (by omega))]
    unfold KD
    rw [Int.toNat_of_nonneg hb.1]

theorem rfM_is (m : Mi) (a b : Int × Bool) (hk : 0 ≤ m.k ∧ m.k < 14) : rfM m a b = fdM m (if a.2 = true then some a.1 else none) (if b.2 = true then some b.1 else none) := by
  obtain ⟨a, x⟩ := a
  obtain ⟨b, y⟩ := b
  by_cases h1 : 1 < m.k
  · have t1 : tkA m.k = true := tkA_iff.2 (by omega)
    have t2 : tkB m.k = false ↔ m.k = 2 := by
      constructor
      · intro h
        have : ¬ (2 < m.k ∧ m.k < 14) := fun hh => by rw [tkB_iff.2 hh] at h; cases h
        omega
      · intro h
        cases ht : tkB m.k with
        | false => rfl
        | true => have := tkB_iff.1 ht; omega
    have dB : (dzB m.k = true) ↔ (dzA m.k = true ∨ m.k = 4) := by simp [dzB]
    have e1 : (tkA m.k = false) = False := by rw [t1]; simp
    have e2 : (tkB m.k = false) = (m.k = 2) := propext t2
    have e3 : (dzB m.k = true) = (dzA m.k = true ∨ m.k = 4) := propext dB
    unfold rfM fdM
    simp only [e1, e2, e3]
    by_cases hz : dzA m.k = true
    all_goals by_cases ha : a = 0
    all_goals by_cases hb : b = 0
    all_goals by_cases h2 : m.k = 2
    all_goals cases x
    all_goals cases y
    all_goals first | (simp [h1, hz, ha, hb, h2]; done) | (simp [h1, hz, ha, hb, h2]; rfl)
  · unfold rfM fdM
    have ht : tkA m.k = false := by
      cases ht : tkA m.k with
      | false => rfl
      | true => have := tkA_iff.1 ht; omega
    rw [if_neg h1, if_pos ht]

theorem rfO_is (out : List Mi) {m : Mi} (hs : soundB m = true) : rfO out m = fdF (KD out) m := by
  have hk := sound_k hs
  unfold rfO fdF
  rw [rfM_is m _ _ hk]
  by_cases h2 : 2 ≤ m.k
  · obtain ⟨-, -, h3, h4, -⟩ := (sound_hi h2).1 hs
    rw [mean_kd out h3, mean_kd out h4]
  · have ht : tkA m.k = false := by
      cases ht : tkA m.k with
      | false => rfl
      | true => have := tkA_iff.1 ht; omega
    unfold fdM
    rw [if_pos ht, if_pos ht]

theorem rfold_is : ∀ (r out : List Mi), SoundL r → rfoldG out r = out ++ mapS fdF (fun K m => fdK K (fdF K m)) (KD out) r
  | [], out, _ => by simp [rfoldG, mapS]
  | m :: r, out, h => by
    have hm := h m (List.mem_cons_self ..)
    rw [rfoldG, rfold_is r _ (fun x hx => h x (List.mem_cons_of_mem _ hx)), mapS, rfO_is out hm, kd_snoc out (sound_fd hm)]
    simp

theorem rfold_any {w : World} {v : Value} {l : List Mi} (h : IsOps w v l) (hl : l.length ≤ 16) (hs : SoundL l) (hw : WordsM l) : Calls Try.prog 15 #[v] w fun e w' =>
    ∃ v', e = .returned v' ∧ w'.ownsRow w.heap.size 34 6 v' (foldV l).length (flat (foldV l)) ∧ Below w.heap.size w w' := by
  have := rfold_raw h hl hs hw
  rw [rfold_is l [] hs, kd_nil, List.nil_append] at this
  exact this

end Go.Proofs.Ytnbflahggpehpaa.Ir
