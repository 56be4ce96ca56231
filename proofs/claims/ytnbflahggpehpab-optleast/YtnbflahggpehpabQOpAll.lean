/- Layer 15: contract of the program's All. -/
import Derived.Test.YtnbflahggpehpabQOpDead2
import Derived.Test.YtnbflahggpehpabQOpFold4
import Derived.Test.YtnbflahggpehpabQOpPure
namespace Go.Proofs.Ytnbflahggpehpab.Ir
open Go.RowKit
set_option linter.unusedVariables false
set_option maxRecDepth 100000
set_option linter.unusedSimpArgs false

/-- A row of operations of the call's own, of words, at most sixteen. -/
structure St (w y : World) (v : Value) (l : List Mi) : Prop where
  own : y.ownsRow w.heap.size 32 6 v l.length (flat l)
  kept : Below w.heap.size w y
  len : l.length ≤ 16
  words : WordsM l

theorem St.ops {w y : World} {v : Value} {l : List Mi} (h : St w y v l) : IsOps y v l := ops_of_own h.own

theorem copy_len (l : List Mi) : (copyV l).length = l.length := by unfold copyV; exact mapS_len _ _ _ _
theorem fold_len (l : List Mi) : (foldV l).length = l.length := by unfold foldV; exact mapS_len _ _ _ _

theorem clone_st {w : World} {v : Value} {l : List Mi} (h : IsOps w v l) (hl : l.length ≤ 16) (hw : WordsM l) : Calls Try.prog 12 #[v] w fun e z => ∃ v', e = .returned v' ∧ St w z v' l := by
  refine (clone_ops h hl).mono ?_
  rintro e z ⟨v', rfl, ho, hb⟩
  exact ⟨v', rfl, ho, hb, hl, hw⟩

theorem copy_st {w y : World} {v : Value} {l : List Mi} (h : St w y v l) : Calls Try.prog 13 #[v] y fun e z => ∃ v', e = .returned v' ∧ St w z v' (copyV l) := by
  refine (copy_any h.ops h.len).mono ?_
  rintro e z ⟨v', rfl, ho, hb⟩
  rw [← copy_len l] at ho
  exact ⟨v', rfl, own_mono ho h.kept.size, onto h.kept (Nat.le_refl _) hb, by rw [copy_len]; exact h.len, (good_copy l).words h.words⟩

theorem fold_st {w y : World} {v : Value} {l : List Mi} (h : St w y v l) : Calls Try.prog 8 #[v] y fun e z => ∃ v', e = .returned v' ∧ St w z v' (foldV l) := by
  refine (fold_any h.ops h.len h.words).mono ?_
  rintro e z ⟨v', rfl, ho, hb⟩
  rw [← fold_len l] at ho
  exact ⟨v', rfl, own_mono ho h.kept.size, onto h.kept (Nat.le_refl _) hb, by rw [fold_len]; exact h.len, (good_fold l h.words).words h.words⟩

theorem dead_st {w y : World} {v : Value} {l : List Mi} (h : St w y v l) : Calls Try.prog 10 #[v] y fun e z => ∃ v', e = .returned v' ∧ St w z v' (deadV l) := by
  refine (dead_any h.ops h.len).mono ?_
  rintro e z ⟨v', rfl, ho, hb⟩
  exact ⟨v', rfl, own_mono ho h.kept.size, onto h.kept (Nat.le_refl _) hb, Nat.le_trans (dead_len l) h.len, (good_dead l).words h.words⟩

/-- Flags in a block of their own. -/
theorem flags3 {w y : World} {c f d : Bool} (h : Below (w.alloc (.cells #[.bool c, .bool f, .bool d] 29)).heap.size (w.alloc (.cells #[.bool c, .bool f, .bool d] 29)) y) :
    y.cell? ⟨w.heap.size, 0, none⟩ = some (.bool c) ∧ y.cell? ⟨w.heap.size, 1, none⟩ = some (.bool f) ∧ y.cell? ⟨w.heap.size, 2, none⟩ = some (.bool d) := by
  have b := (Box.new w #[.bool c, .bool f, .bool d] 29).on h
  exact ⟨b.cell 0, b.cell 1, b.cell 2⟩

theorem St.back {w y : World} {o : Obj} {v : Value} {l : List Mi} (h : St (w.alloc o) y v l) : St w y v l :=
  ⟨own_mono h.own (by simp), onto (grow w o) (Nat.le_refl _) h.kept, h.len, h.words⟩

set_option maxHeartbeats 4000000 in
theorem all_any {w : World} {v : Value} {l : List Mi} (h : IsOps w v l) (hl : l.length ≤ 16) (hw : WordsM l) (c f d : Bool) : Calls Try.prog 7 #[v, .agg #[.bool c, .bool f, .bool d]] w fun e w' => ∃ v', e = .returned v' ∧ St w w' v' (allV c f d l) := by
  have c0 := hide (clone_st (h.on (grow w (.cells #[.bool c, .bool f, .bool d] 29))) hl hw)
  cases c <;> cases f <;> cases d
  · go_enter Try.func7, Try.ntmps7
    go_wp2_with fail
    refine c0.out.mono ?_
    rintro e w0 ⟨v0, rfl, h0⟩
    obtain ⟨y0, y1, y2⟩ := flags3 h0.kept
    replace h0 := hide h0
    clear c0
    go_wp2
    go_ret
    exact ⟨_, rfl, h0.out.back⟩
  · go_enter Try.func7, Try.ntmps7
    go_wp2_with fail
    refine c0.out.mono ?_
    rintro e w0 ⟨v0, rfl, h0⟩
    obtain ⟨y0, y1, y2⟩ := flags3 h0.kept
    replace h0 := hide h0
    clear c0
    go_wp2_with fail
    refine (dead_st h0.out).mono ?_
    rintro e w1 ⟨v1, rfl, h1⟩
    clear y0 y1 y2
    obtain ⟨y0, y1, y2⟩ := flags3 h1.kept
    replace h1 := hide h1
    clear h0
    go_wp2
    go_ret
    exact ⟨_, rfl, h1.out.back⟩
  · go_enter Try.func7, Try.ntmps7
    go_wp2_with fail
    refine c0.out.mono ?_
    rintro e w0 ⟨v0, rfl, h0⟩
    obtain ⟨y0, y1, y2⟩ := flags3 h0.kept
    replace h0 := hide h0
    clear c0
    go_wp2_with fail
    refine (fold_st h0.out).mono ?_
    rintro e w1 ⟨v1, rfl, h1⟩
    clear y0 y1 y2
    obtain ⟨y0, y1, y2⟩ := flags3 h1.kept
    replace h1 := hide h1
    clear h0
    go_wp2
    go_ret
    exact ⟨_, rfl, h1.out.back⟩
  · go_enter Try.func7, Try.ntmps7
    go_wp2_with fail
    refine c0.out.mono ?_
    rintro e w0 ⟨v0, rfl, h0⟩
    obtain ⟨y0, y1, y2⟩ := flags3 h0.kept
    replace h0 := hide h0
    clear c0
    go_wp2_with fail
    refine (fold_st h0.out).mono ?_
    rintro e w1 ⟨v1, rfl, h1⟩
    clear y0 y1 y2
    obtain ⟨y0, y1, y2⟩ := flags3 h1.kept
    replace h1 := hide h1
    clear h0
    go_wp2_with fail
    refine (dead_st h1.out).mono ?_
    rintro e w2 ⟨v2, rfl, h2⟩
    clear y0 y1 y2
    obtain ⟨y0, y1, y2⟩ := flags3 h2.kept
    replace h2 := hide h2
    clear h1
    go_wp2
    go_ret
    exact ⟨_, rfl, h2.out.back⟩
  · go_enter Try.func7, Try.ntmps7
    go_wp2_with fail
    refine c0.out.mono ?_
    rintro e w0 ⟨v0, rfl, h0⟩
    obtain ⟨y0, y1, y2⟩ := flags3 h0.kept
    replace h0 := hide h0
    clear c0
    go_wp2_with fail
    refine (copy_st h0.out).mono ?_
    rintro e w1 ⟨v1, rfl, h1⟩
    clear y0 y1 y2
    obtain ⟨y0, y1, y2⟩ := flags3 h1.kept
    replace h1 := hide h1
    clear h0
    go_wp2_with fail
    refine (copy_st h1.out).mono ?_
    rintro e w2 ⟨v2, rfl, h2⟩
    clear y0 y1 y2
    obtain ⟨y0, y1, y2⟩ := flags3 h2.kept
    replace h2 := hide h2
    clear h1
    go_wp2
    go_ret
    exact ⟨_, rfl, h2.out.back⟩
  · go_enter Try.func7, Try.ntmps7
    go_wp2_with fail
    refine c0.out.mono ?_
    rintro e w0 ⟨v0, rfl, h0⟩
    obtain ⟨y0, y1, y2⟩ := flags3 h0.kept
    replace h0 := hide h0
    clear c0
    go_wp2_with fail
    refine (copy_st h0.out).mono ?_
    rintro e w1 ⟨v1, rfl, h1⟩
    clear y0 y1 y2
    obtain ⟨y0, y1, y2⟩ := flags3 h1.kept
    replace h1 := hide h1
    clear h0
    go_wp2_with fail
    refine (copy_st h1.out).mono ?_
    rintro e w2 ⟨v2, rfl, h2⟩
    clear y0 y1 y2
    obtain ⟨y0, y1, y2⟩ := flags3 h2.kept
    replace h2 := hide h2
    clear h1
    go_wp2_with fail
    refine (dead_st h2.out).mono ?_
    rintro e w3 ⟨v3, rfl, h3⟩
    clear y0 y1 y2
    obtain ⟨y0, y1, y2⟩ := flags3 h3.kept
    replace h3 := hide h3
    clear h2
    go_wp2
    go_ret
    exact ⟨_, rfl, h3.out.back⟩
  · go_enter Try.func7, Try.ntmps7
    go_wp2_with fail
    refine c0.out.mono ?_
    rintro e w0 ⟨v0, rfl, h0⟩
    obtain ⟨y0, y1, y2⟩ := flags3 h0.kept
    replace h0 := hide h0
    clear c0
    go_wp2_with fail
    refine (copy_st h0.out).mono ?_
    rintro e w1 ⟨v1, rfl, h1⟩
    clear y0 y1 y2
    obtain ⟨y0, y1, y2⟩ := flags3 h1.kept
    replace h1 := hide h1
    clear h0
    go_wp2_with fail
    refine (fold_st h1.out).mono ?_
    rintro e w2 ⟨v2, rfl, h2⟩
    clear y0 y1 y2
    obtain ⟨y0, y1, y2⟩ := flags3 h2.kept
    replace h2 := hide h2
    clear h1
    go_wp2_with fail
    refine (copy_st h2.out).mono ?_
    rintro e w3 ⟨v3, rfl, h3⟩
    clear y0 y1 y2
    obtain ⟨y0, y1, y2⟩ := flags3 h3.kept
    replace h3 := hide h3
    clear h2
    go_wp2
    go_ret
    exact ⟨_, rfl, h3.out.back⟩
  · go_enter Try.func7, Try.ntmps7
    go_wp2_with fail
    refine c0.out.mono ?_
    rintro e w0 ⟨v0, rfl, h0⟩
    obtain ⟨y0, y1, y2⟩ := flags3 h0.kept
    replace h0 := hide h0
    clear c0
    go_wp2_with fail
    refine (copy_st h0.out).mono ?_
    rintro e w1 ⟨v1, rfl, h1⟩
    clear y0 y1 y2
    obtain ⟨y0, y1, y2⟩ := flags3 h1.kept
    replace h1 := hide h1
    clear h0
    go_wp2_with fail
    refine (fold_st h1.out).mono ?_
    rintro e w2 ⟨v2, rfl, h2⟩
    clear y0 y1 y2
    obtain ⟨y0, y1, y2⟩ := flags3 h2.kept
    replace h2 := hide h2
    clear h1
    go_wp2_with fail
    refine (copy_st h2.out).mono ?_
    rintro e w3 ⟨v3, rfl, h3⟩
    clear y0 y1 y2
    obtain ⟨y0, y1, y2⟩ := flags3 h3.kept
    replace h3 := hide h3
    clear h2
    go_wp2_with fail
    refine (dead_st h3.out).mono ?_
    rintro e w4 ⟨v4, rfl, h4⟩
    clear y0 y1 y2
    obtain ⟨y0, y1, y2⟩ := flags3 h4.kept
    replace h4 := hide h4
    clear h3
    go_wp2
    go_ret
    exact ⟨_, rfl, h4.out.back⟩

end Go.Proofs.Ytnbflahggpehpab.Ir
