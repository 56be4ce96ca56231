/- Layer 15: the document's Dead leaves what the program's does, of operations that may be. -/
import Derived.Test.YtnbflahggpehpaaQOpRDead
import Derived.Test.YtnbflahggpehpaaQOpPure
namespace Go.Proofs.Ytnbflahggpehpaa.Ir
open Go.RowKit
set_option linter.unusedVariables false
set_option maxRecDepth 100000
set_option linter.unusedSimpArgs false

def SoundL (l : List Mi) : Prop := ∀ m ∈ l, soundB m = true

theorem may_sound {l : List Mi} (h : mayB l = true) : SoundL l := by
  have key : ∀ (l : List Mi) (p : Int), mayFrom p l = true → SoundL l := by
    intro l
    induction l with
    | nil => intro p _ m hm; cases hm
    | cons x l ih =>
      intro p h m hm
      simp only [mayFrom, Bool.and_eq_true, decide_eq_true_eq] at h
      rcases List.mem_cons.1 hm with rfl | hm
      · exact h.1.2.2
      · exact ih _ h.2 m hm
  exact key l 0 ((may_iff l).1 h).2

theorem drA_iff {m : Mi} {d : Int} : drA m d = true ↔ 1 < m.k ∧ m.a = d ∧ d < 32 := by simp [drA]
theorem drB_iff {m : Mi} {d : Int} : drB m d = true ↔ 2 < m.k ∧ m.b = d ∧ d < 32 := by simp [drB]

theorem dd_eq {L : Nat → Bool} {m : Mi} {n : Nat} (ha : rdA m = true → n ≠ m.a.toNat) (hb : rdB m = true → n ≠ m.b.toNat) : ddL L m n = ddW L m n := by
  unfold ddL ddB
  split
  · rename_i e
    unfold putL
    rw [if_neg (hb e)]
    unfold ddA
    split
    · rename_i e2
      unfold putL
      rw [if_neg (ha e2)]
    · rfl
  · unfold ddA
    split
    · rename_i e2
      unfold putL
      rw [if_neg (ha e2)]
    · rfl

theorem gone_lost (d : Int) (h1 : 1 ≤ d) (h2 : d < 32) : ∀ (l : List Mi), SoundL l → lostV l d.toNat = goneB d l
  | [], _ => rfl
  | x :: l, h => by
    have ih := gone_lost d h1 h2 l (fun m hm => h m (List.mem_cons_of_mem _ hm))
    have hx := h x (List.mem_cons_self ..)
    have hk := sound_k hx
    rw [lostV, goneB]
    by_cases e1 : drA x d = true ∨ drB x d = true
    · rw [if_pos e1]
      rcases e1 with e | e
      · have e' := drA_iff.1 e
        rw [← e'.2.1]
        exact dd_a (rdA_iff.2 (by omega))
      · have e' := drB_iff.1 e
        rw [← e'.2.1]
        exact dd_b (rdB_iff.2 (by omega))
    · rw [if_neg e1, dd_eq (fun hr hn => e1 (Or.inl (drA_iff.2 (by have := rdA_iff.1 hr; omega)))) (fun hr hn => e1 (Or.inr (drB_iff.2 (by have := rdB_iff.1 hr; omega))))]
      by_cases e2 : ¬ x.k = 0 ∧ x.d = d
      · rw [if_pos e2]
        have hw := sound_wr hx e2.1
        unfold ddW
        rw [if_pos hw, e2.2]
        unfold putL
        rw [if_pos rfl]
      · rw [if_neg e2, ← ih]
        unfold ddW
        split
        · rename_i hw
          have := wrB_iff.1 hw
          unfold putL
          rw [if_neg (fun hn => e2 ⟨by omega, by omega⟩)]
        · rfl

theorem dead_is : ∀ (l : List Mi), SoundL l → rdeadV l = deadV l
  | [], _ => rfl
  | m :: l, h => by
    have hl : SoundL l := fun x hx => h x (List.mem_cons_of_mem _ hx)
    have ih := dead_is l hl
    have hx := h m (List.mem_cons_self ..)
    rw [rdeadV]
    show _ = (ddM (lostV l) m :: keptV l).filter fun m => !(m.k == 0)
    by_cases e0 : m.k = 0
    · rw [if_pos e0, ih, List.filter_cons_of_neg]
      · rfl
      · unfold ddM
        split
        · simp [M0]
        · simp [e0]
    · rw [if_neg e0]
      have hw := sound_wr hx e0
      have hd := wrB_iff.1 hw
      have hg := gone_lost m.d (by omega) hd.2.2.2 l hl
      unfold ddM
      by_cases e1 : goneB m.d l = true
      · rw [if_pos e1, if_pos ⟨hw, by rw [hg]; exact e1⟩, ih, List.filter_cons_of_neg (by simp [M0])]
        rfl
      · rw [if_neg e1, if_neg (fun hh => e1 (by rw [← hg]; exact hh.2)), ih, List.filter_cons_of_pos (by simp [e0])]
        rfl

theorem rdead_any {w : World} {v : Value} {l : List Mi} (h : IsOps w v l) (hl : l.length ≤ 16) (hs : SoundL l) : Calls Try.prog 17 #[v] w fun e w' =>
    ∃ v', e = .returned v' ∧ w'.ownsRow w.heap.size 34 6 v' (deadV l).length (flat (deadV l)) ∧ Below w.heap.size w w' := by
  have := rdead_raw h hl
  rw [dead_is l hs] at this
  exact this

end Go.Proofs.Ytnbflahggpehpaa.Ir
