/- Layer 15: the document's Copy makes what the program's does, of operations that may be. -/
import Derived.Test.YtnbflahggpehpaaQOpRCopy
namespace Go.Proofs.Ytnbflahggpehpaa.Ir
open Go.RowKit
set_option linter.unusedVariables false
set_option maxRecDepth 100000
set_option linter.unusedSimpArgs false

def SrcEq (S : Nat → Int) (out : List Mi) : Prop := ∀ n : Nat, n < 32 → S n = srcD (n : Int) out

theorem srcR_snoc (n : Int) (x : Mi) : ∀ (r aft : List Mi), srcR n r (aft ++ [x]) = if ¬ srcR n r aft = n ∧ dwr x (srcR n r aft) = true then n else srcR n r aft
  | [], aft => by
    show n = if ¬ n = n ∧ dwr x n = true then n else n
    rw [if_neg (fun h => h.1 rfl)]
  | m :: r, aft => by
    by_cases h : dwr m n = true
    · by_cases hc : m.k = 2 ∧ m.a < 32 ∧ ¬ m.a = n
      · have e1 : srcR n (m :: r) aft = if aft.any (fun x => dwr x m.a) = true then n else m.a := by rw [srcR, if_pos h, if_pos hc]
        have e2 : srcR n (m :: r) (aft ++ [x]) = if (aft ++ [x]).any (fun x => dwr x m.a) = true then n else m.a := by rw [srcR, if_pos h, if_pos hc]
        rw [e1, e2, List.any_append]
        by_cases ha : aft.any (fun x => dwr x m.a) = true
        · rw [ha]; simp
        · have ha' : aft.any (fun x => dwr x m.a) = false := by simpa using ha
          rw [ha']
          by_cases hx : dwr x m.a = true
          · simp [hx, hc.2.2]
          · have hx' : dwr x m.a = false := by simpa using hx
            simp [hx']
      · have e1 : ∀ aft, srcR n (m :: r) aft = n := fun aft => by rw [srcR, if_pos h, if_neg hc]
        rw [e1, e1, if_neg (fun h => h.1 rfl)]
    · have e1 : ∀ aft, srcR n (m :: r) aft = srcR n r (m :: aft) := fun aft => by rw [srcR, if_neg h]
      rw [e1, e1, ← List.cons_append]
      exact srcR_snoc n x r (m :: aft)

theorem srcD_snoc (n : Int) (out : List Mi) (m : Mi) : srcD n (out ++ [m]) = if dwr m n = true then (if m.k = 2 ∧ m.a < 32 ∧ ¬ m.a = n then m.a else n) else if ¬ srcD n out = n ∧ dwr m (srcD n out) = true then n else srcD n out := by
  unfold srcD
  rw [List.reverse_append]
  show srcR n (m :: out.reverse) [] = _
  rw [srcR]
  by_cases h : dwr m n = true
  · rw [if_pos h, if_pos h]
    by_cases hc : m.k = 2 ∧ m.a < 32 ∧ ¬ m.a = n
    · rw [if_pos hc, if_pos hc]; simp
    · rw [if_neg hc, if_neg hc]
  · rw [if_neg h, if_neg h]
    exact srcR_snoc n m out.reverse []

theorem dwr_iff {m : Mi} {n : Int} : dwr m n = true ↔ ¬ m.k = 0 ∧ m.d = n := by simp [dwr]

theorem src_next {S : Nat → Int} {out : List Mi} {m : Mi} (hS : SrcEq S out) (hs : soundB m = true) : SrcEq (cpS S m) (out ++ [m]) := by
  intro n hn
  rw [srcD_snoc, ← hS n hn]
  unfold cpS
  by_cases hk : m.k = 0
  · rw [if_neg (fun hw => by have := wrB_iff.1 hw; omega), if_neg (fun h => (dwr_iff.1 h).1 hk), if_neg (fun h => (dwr_iff.1 h.2).1 hk)]
  · have hw := sound_wr hs hk
    have hd := wrB_iff.1 hw
    rw [if_pos hw]
    unfold srcB
    by_cases e : n = m.d.toNat
    · rw [if_pos e, if_pos (dwr_iff.2 ⟨hk, by omega⟩)]
      by_cases e2 : m.k = 2
      · have ho := oprB_iff.1 ((sound_hi (by omega)).1 hs).2.2.1
        by_cases ha : m.a < 32
        · rw [if_pos ⟨e2, regB_iff.2 ⟨ho.1, ha⟩⟩]
          by_cases hn' : m.a = (n : Int)
          · rw [if_neg (fun h => h.2.2 hn')]; exact hn'
          · rw [if_pos ⟨e2, ha, hn'⟩]
        · rw [if_neg (fun h => ha (regB_iff.1 h.2).2), if_neg (fun h => ha h.2.1)]; omega
      · rw [if_neg (fun h => e2 h.1), if_neg (fun h => e2 h.1)]; omega
    · have nd : ¬ dwr m (n : Int) = true := fun h => e (by have := (dwr_iff.1 h).2; omega)
      rw [if_neg e]
      by_cases e2 : S n = m.d
      · rw [if_pos e2, if_neg nd, if_pos ⟨by omega, dwr_iff.2 ⟨hk, e2.symm⟩⟩]
      · rw [if_neg e2, if_neg nd, if_neg (fun h => e2 (dwr_iff.1 h.2).2.symm)]

theorem rcO_is {S : Nat → Int} {out : List Mi} {m : Mi} (hS : SrcEq S out) (hs : soundB m = true) : rcO out m = cpM S m := by
  have hk := sound_k hs
  have ea : (if 1 < m.k ∧ m.a < 32 then srcD m.a out else m.a) = (if rdA m then S m.a.toNat else m.a) := by
    by_cases h2 : 2 ≤ m.k
    · have ho := oprB_iff.1 ((sound_hi h2).1 hs).2.2.1
      by_cases ha : m.a < 32
      · rw [if_pos ⟨by omega, ha⟩, if_pos (rdA_iff.2 ⟨⟨h2, hk.2⟩, ho.1, ha⟩), hS m.a.toNat (by omega), Int.toNat_of_nonneg ho.1]
      · rw [if_neg (fun h => ha h.2), if_neg (fun h => ha (rdA_iff.1 h).2.2)]
    · rw [if_neg (fun h => h2 (by omega)), if_neg (fun h => h2 (rdA_iff.1 h).1.1)]
  have eb : (if 2 < m.k ∧ m.b < 32 then srcD m.b out else m.b) = (if rdB m then S m.b.toNat else m.b) := by
    by_cases h2 : 2 < m.k
    · have ho := oprB_iff.1 ((sound_hi (by omega)).1 hs).2.2.2.1
      by_cases ha : m.b < 32
      · rw [if_pos ⟨h2, ha⟩, if_pos (rdB_iff.2 ⟨⟨h2, hk.2⟩, ho.1, ha⟩), hS m.b.toNat (by omega), Int.toNat_of_nonneg ho.1]
      · rw [if_neg (fun h => ha h.2), if_neg (fun h => ha (rdB_iff.1 h).2.2)]
    · rw [if_neg (fun h => h2 h.1), if_neg (fun h => h2 (rdB_iff.1 h).1.1)]
  unfold rcO rcB rcA cpM
  rw [ea, eb]

theorem rcopy_is : ∀ (r out : List Mi) (S : Nat → Int), SoundL r → SrcOk S → SrcEq S out → rcopyG out r = out ++ mapS cpM (fun S m => cpS S (cpM S m)) S r
  | [], out, S, _, _, _ => by simp [rcopyG, mapS]
  | m :: r, out, S, h, ho, hS => by
    have hm := h m (List.mem_cons_self ..)
    have hc := sound_cp ho hm
    rw [rcopyG, rcO_is hS hm, rcopy_is r _ (cpS S (cpM S m)) (fun x hx => h x (List.mem_cons_of_mem _ hx)) (srcOk_keep ho _) (src_next hS hc), mapS]
    simp

theorem rcopy_any {w : World} {v : Value} {l : List Mi} (h : IsOps w v l) (hl : l.length ≤ 16) (hs : SoundL l) : Calls Try.prog 13 #[v] w fun e w' =>
    ∃ v', e = .returned v' ∧ w'.ownsRow w.heap.size 34 6 v' (copyV l).length (flat (copyV l)) ∧ Below w.heap.size w w' := by
  have := rcopy_raw h hl
  rw [rcopy_is l [] idS hs (fun n hn => (src_id (fun _ => 0) n hn).1) (fun n hn => rfl), List.nil_append] at this
  exact this

end Go.Proofs.Ytnbflahggpehpaa.Ir
