/- What the second pass makes of any operations is as the document says. -/
import Derived.Test.YtnbflahggpehpaaQOpMay
import Derived.Test.YtnbflahggpehpaaQOpRFold2
namespace Go.Proofs.Ytnbflahggpehpaa.Ir
open Go.RowKit
set_option linter.unusedVariables false
set_option maxRecDepth 100000
set_option linter.unusedSimpArgs false

theorem lenOf {w : World} {ad : Option Addr} {n c : Nat} {l : List Mi} (h : IsOps w (.slice ad n c) l) : l.length = n := by
  obtain ⟨a2, n2, c2, e, hn2, -, -⟩ := h.open'
  cases e
  exact hn2.symm

set_option maxHeartbeats 4000000 in
theorem folds_cut {w : World} {ad : Option Addr} {n c K : Nat} {l : List Mi} (hnc : n ≤ c) (hK : (n ≤ 16 ∧ K = n) ∨ (16 < n ∧ K = 16)) (h : IsOps w (.slice ad K c) l) (hw : WordsM l) (hl : l.length ≤ 16) :
    Calls Try.prog 4 #[.slice ad n c] w fun e w' => e = .returned (.bool true) ∧ Below w.heap.size w w' := by
  have cm := hide (lmay_any hnc hK h)
  have h := hide h
  clear hK
  go_enter Try.func4, Try.ntmps4
  go_wp2_with fail
  refine cm.out.mono ?_
  rintro e w1 ⟨rfl, h1⟩
  have o1 := h.out.on h1
  have ca := hide (fold_any o1 hl hw)
  replace o1 := hide o1
  replace h1 := hide h1
  clear cm
  go_wp2_with fail
  refine ca.out.mono ?_
  rintro e w2 ⟨va, rfl, hoa, h2⟩
  have oa := hide (ops_of_own (l := foldV l) (by rw [fold_len]; exact hoa))
  have o2 := hide (o1.out.on h2)
  have b2 := hide (onto h1.out (Nat.le_refl _) h2)
  clear ca o1 h1 hoa h2
  by_cases hm : mayB l = true
  · have hs := hide (may_sound hm)
    rw [hm]
    go_wp2_with fail
    refine (fixed_any _).mono ?_
    rintro e w3 ⟨rfl, h3⟩
    have oa3 := hide (oa.out.on h3)
    have o3 := o2.out.on h3
    have b3 := hide (onto b2.out (Nat.le_refl _) h3)
    have cd := hide (rfold_any o3 hl hs.out hw)
    clear oa o2 b2 h3 o3
    go_wp2_with fail
    refine cd.out.mono ?_
    rintro e w4 ⟨vb, rfl, hob, h4⟩
    have ob := ops_of_own (l := foldV l) hob
    have cs := hide (rsame_any (oa3.out.on h4) ob)
    rw [show decide (foldV l = foldV l) = true by simp] at cs
    have b4 := hide (onto b3.out (Nat.le_refl _) h4)
    clear oa3 b3 hob ob h4 cd
    go_wp2_with fail
    refine cs.out.mono ?_
    rintro e w5 ⟨rfl, h5⟩
    have b5 := hide (onto b4.out (Nat.le_refl _) h5)
    clear cs b4 h5
    go_wp2
    go_ret
    exact ⟨rfl, b5.out⟩
  · have hm' : mayB l = false := by simpa using hm
    have cf := hide (fixed_any w2)
    rw [hm']
    go_wp2_with fail
    refine cf.out.mono ?_
    rintro e w3 ⟨rfl, h3⟩
    have b3 := hide (onto b2.out (Nat.le_refl _) h3)
    clear cf h3
    go_wp2
    go_ret
    exact ⟨rfl, b3.out⟩

theorem folds_walk (w : World) (v : Value) (l : List Mi) (hl : IsOps w v l) (hw : WordsM l) (hc : CapOk v) :
    Calls Try.prog 4 #[v] w fun e w' => e = .returned (.bool true) ∧ Below w.heap.size w w' := by
  obtain ⟨ad, n, c, rfl, hnc, h⟩ := cut_ops hl hw hc 16
  rcases h with ⟨hn, h, hw'⟩ | ⟨hn, h, hw'⟩
  · exact folds_cut hnc (Or.inl ⟨hn, rfl⟩) h hw' (by rw [lenOf h]; exact hn)
  · exact folds_cut hnc (Or.inr ⟨hn, rfl⟩) h hw' (by rw [lenOf h]; exact Nat.le_refl _)

end Go.Proofs.Ytnbflahggpehpaa.Ir
