/- Layer 15: contract of the document's All. -/
import Derived.Test.YtnbflahggpehpaaQOpRCopy2
import Derived.Test.YtnbflahggpehpaaQOpRFold2
import Derived.Test.YtnbflahggpehpaaQOpMay
namespace Go.Proofs.Ytnbflahggpehpaa.Ir
open Go.RowKit
set_option linter.unusedVariables false
set_option maxRecDepth 100000
set_option linter.unusedSimpArgs false

/-- A row of operations that may be, of words. -/
structure DSt (w y : World) (v : Value) (l : List Mi) : Prop where
  ops : IsOps y v l
  kept : Below w.heap.size w y
  may : mayB l = true
  words : WordsM l

theorem DSt.len {w y : World} {v : Value} {l : List Mi} (h : DSt w y v l) : l.length ≤ 16 := ((may_iff l).1 h.may).1

theorem rcopy_st {w y : World} {v : Value} {l : List Mi} (h : DSt w y v l) : Calls Try.prog 13 #[v] y fun e z => ∃ v', e = .returned v' ∧ DSt w z v' (copyV l) := by
  refine (rcopy_any h.ops h.len (may_sound h.may)).mono ?_
  rintro e z ⟨v', rfl, ho, hb⟩
  exact ⟨v', rfl, ops_of_own ho, onto h.kept (Nat.le_refl _) hb, copy_may h.may, (good_copy l).words h.words⟩

theorem rfold_st {w y : World} {v : Value} {l : List Mi} (h : DSt w y v l) : Calls Try.prog 15 #[v] y fun e z => ∃ v', e = .returned v' ∧ DSt w z v' (foldV l) := by
  refine (rfold_any h.ops h.len (may_sound h.may) h.words).mono ?_
  rintro e z ⟨v', rfl, ho, hb⟩
  exact ⟨v', rfl, ops_of_own ho, onto h.kept (Nat.le_refl _) hb, fold_may h.may, (good_fold l h.words).words h.words⟩

theorem rdead_st {w y : World} {v : Value} {l : List Mi} (h : DSt w y v l) : Calls Try.prog 17 #[v] y fun e z => ∃ v', e = .returned v' ∧ DSt w z v' (deadV l) := by
  refine (rdead_any h.ops h.len (may_sound h.may)).mono ?_
  rintro e z ⟨v', rfl, ho, hb⟩
  exact ⟨v', rfl, ops_of_own ho, onto h.kept (Nat.le_refl _) hb, dead_may h.may, (good_dead l).words h.words⟩

theorem DSt.back {w y : World} {o : Obj} {v : Value} {l : List Mi} (h : DSt (w.alloc o) y v l) : DSt w y v l := ⟨h.ops, onto (grow w o) (Nat.le_refl _) h.kept, h.may, h.words⟩

set_option maxHeartbeats 4000000 in
theorem rall_any {w : World} {v : Value} {l : List Mi} (h : IsOps w v l) (hm : mayB l = true) (hw : WordsM l) (c f d : Bool) : Calls Try.prog 19 #[v, .agg #[.bool c, .bool f, .bool d]] w fun e w' => ∃ v', e = .returned v' ∧ DSt w w' v' (allV c f d l) := by
  have hg := grow w (.cells #[.bool c, .bool f, .bool d] 30)
  have h0 : Hid (DSt (w.alloc (.cells #[.bool c, .bool f, .bool d] 30)) (w.alloc (.cells #[.bool c, .bool f, .bool d] 30)) v l) := hide ⟨h.on hg, Below.refl _ _, hm, hw⟩
  clear h hm hw hg
  cases c <;> cases f <;> cases d
  · go_enter Try.func19, Try.ntmps19
    go_wp2
    go_ret
    exact ⟨_, rfl, h0.out.back⟩
  · go_enter Try.func19, Try.ntmps19
    go_wp2_with fail
    refine (rdead_st h0.out).mono ?_
    rintro e w1 ⟨v1, rfl, h1⟩
    obtain ⟨y0, y1, y2⟩ := flags3 h1.kept
    replace h1 := hide h1
    clear h0
    go_wp2
    go_ret
    exact ⟨_, rfl, h1.out.back⟩
  · go_enter Try.func19, Try.ntmps19
    go_wp2_with fail
    refine (rfold_st h0.out).mono ?_
    rintro e w1 ⟨v1, rfl, h1⟩
    obtain ⟨y0, y1, y2⟩ := flags3 h1.kept
    replace h1 := hide h1
    clear h0
    go_wp2
    go_ret
    exact ⟨_, rfl, h1.out.back⟩
  · go_enter Try.func19, Try.ntmps19
    go_wp2_with fail
    refine (rfold_st h0.out).mono ?_
    rintro e w1 ⟨v1, rfl, h1⟩
    obtain ⟨y0, y1, y2⟩ := flags3 h1.kept
    replace h1 := hide h1
    clear h0
    go_wp2_with fail
    refine (rdead_st h1.out).mono ?_
    rintro e w2 ⟨v2, rfl, h2⟩
    clear y0 y1 y2
    obtain ⟨y0, y1, y2⟩ := flags3 h2.kept
    replace h2 := hide h2
    clear h1
    go_wp2
    go_ret
    exact ⟨_, rfl, h2.out.back⟩
  · go_enter Try.func19, Try.ntmps19
    go_wp2_with fail
    refine (rcopy_st h0.out).mono ?_
    rintro e w1 ⟨v1, rfl, h1⟩
    obtain ⟨y0, y1, y2⟩ := flags3 h1.kept
    replace h1 := hide h1
    clear h0
    go_wp2_with fail
    refine (rcopy_st h1.out).mono ?_
    rintro e w2 ⟨v2, rfl, h2⟩
    clear y0 y1 y2
    obtain ⟨y0, y1, y2⟩ := flags3 h2.kept
    replace h2 := hide h2
    clear h1
    go_wp2
    go_ret
    exact ⟨_, rfl, h2.out.back⟩
  · go_enter Try.func19, Try.ntmps19
    go_wp2_with fail
    refine (rcopy_st h0.out).mono ?_
    rintro e w1 ⟨v1, rfl, h1⟩
    obtain ⟨y0, y1, y2⟩ := flags3 h1.kept
    replace h1 := hide h1
    clear h0
    go_wp2_with fail
    refine (rcopy_st h1.out).mono ?_
    rintro e w2 ⟨v2, rfl, h2⟩
    clear y0 y1 y2
    obtain ⟨y0, y1, y2⟩ := flags3 h2.kept
    replace h2 := hide h2
    clear h1
    go_wp2_with fail
    refine (rdead_st h2.out).mono ?_
    rintro e w3 ⟨v3, rfl, h3⟩
    clear y0 y1 y2
    obtain ⟨y0, y1, y2⟩ := flags3 h3.kept
    replace h3 := hide h3
    clear h2
    go_wp2
    go_ret
    exact ⟨_, rfl, h3.out.back⟩
  · go_enter Try.func19, Try.ntmps19
    go_wp2_with fail
    refine (rcopy_st h0.out).mono ?_
    rintro e w1 ⟨v1, rfl, h1⟩
    obtain ⟨y0, y1, y2⟩ := flags3 h1.kept
    replace h1 := hide h1
    clear h0
    go_wp2_with fail
    refine (rfold_st h1.out).mono ?_
    rintro e w2 ⟨v2, rfl, h2⟩
    clear y0 y1 y2
    obtain ⟨y0, y1, y2⟩ := flags3 h2.kept
    replace h2 := hide h2
    clear h1
    go_wp2_with fail
    refine (rcopy_st h2.out).mono ?_
    rintro e w3 ⟨v3, rfl, h3⟩
    clear y0 y1 y2
    obtain ⟨y0, y1, y2⟩ := flags3 h3.kept
    replace h3 := hide h3
    clear h2
    go_wp2
    go_ret
    exact ⟨_, rfl, h3.out.back⟩
  · go_enter Try.func19, Try.ntmps19
    go_wp2_with fail
    refine (rcopy_st h0.out).mono ?_
    rintro e w1 ⟨v1, rfl, h1⟩
    obtain ⟨y0, y1, y2⟩ := flags3 h1.kept
    replace h1 := hide h1
    clear h0
    go_wp2_with fail
    refine (rfold_st h1.out).mono ?_
    rintro e w2 ⟨v2, rfl, h2⟩
    clear y0 y1 y2
    obtain ⟨y0, y1, y2⟩ := flags3 h2.kept
    replace h2 := hide h2
    clear h1
    go_wp2_with fail
    refine (rcopy_st h2.out).mono ?_
    rintro e w3 ⟨v3, rfl, h3⟩
    clear y0 y1 y2
    obtain ⟨y0, y1, y2⟩ := flags3 h3.kept
    replace h3 := hide h3
    clear h2
    go_wp2_with fail
    refine (rdead_st h3.out).mono ?_
    rintro e w4 ⟨v4, rfl, h4⟩
    clear y0 y1 y2
    obtain ⟨y0, y1, y2⟩ := flags3 h4.kept
    replace h4 := hide h4
    clear h3
    go_wp2
    go_ret
    exact ⟨_, rfl, h4.out.back⟩

end Go.Proofs.Ytnbflahggpehpaa.Ir
