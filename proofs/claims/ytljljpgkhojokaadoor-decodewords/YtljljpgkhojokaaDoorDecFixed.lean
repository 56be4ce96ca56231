/- Name, Form and Branch, and the calls of layer 4 whose answers the document fixes. -/
import Derived.Test.YtljljpgkhojokaaDoorDecWalks5
namespace Go.Proofs.YtljljpgkhojokaaDoor
open Go.RowKit
set_option linter.unusedVariables false

theorem name_any (op : Int) (w : World) (tb : Tabs w) :
    Calls Tryd.prog 15 #[.int .i64 op] w fun e w' => e = .returned (.string (Dec.name (idx op))) ∧ Below w.heap.size w w' := by
  have hr := fun w tb => rowOf_any op w tb
  unfold rowV at hr
  have hn := row_name
  generalize Dec.name (idx op) = nm at *
  go_enter Tryd.func15, Tryd.ntmps15
  go_wp2_with fail
  refine (hr _ tb).mono ?_
  rintro e w1 ⟨rfl, h1⟩
  go_wp2
  go_ret
  exact ⟨rfl, h1⟩

theorem form_any (op : Int) (w : World) (tb : Tabs w) :
    Calls Tryd.prog 16 #[.int .i64 op] w fun e w' => e = .returned (.string (Dec.lname (Dec.fm (idx op)))) ∧ Below w.heap.size w w' := by
  have hr := fun w tb => rowOf_any op w tb
  have hl := fun w => layout_any (Dec.fm (idx op)) (idx_lt op) w
  unfold rowV at hr
  unfold layV at hl
  have hf := row_form
  have hn := lay_name
  generalize Dec.lname (Dec.fm (idx op)) = nm at *
  go_enter Tryd.func16, Tryd.ntmps16
  go_wp2_with fail
  refine (hr _ tb).mono ?_
  rintro e w1 ⟨rfl, h1⟩
  go_wp2_with fail
  refine (hl _).mono ?_
  rintro e w2 ⟨rfl, h2⟩
  go_wp2
  go_ret
  exact ⟨rfl, onto h1 h2⟩

/-- Is a form one of a branch or a jump? -/
def goes (f : Nat) : Bool := f == 3 || f == 4 || f == 11 || f == 12 || f == 13

theorem branch_any (op : Int) (w : World) (tb : Tabs w) :
    Calls Tryd.prog 17 #[.int .i64 op] w fun e w' => e = .returned (.bool (goes (Dec.fm (idx op)))) ∧ Below w.heap.size w w' := by
  have hr := fun w tb => rowOf_any op w tb
  unfold rowV at hr
  have hf := row_form
  have hx := idx_lt op
  generalize Dec.fm (idx op) = f at *
  rcases (by omega : f = 3 ∨ f = 4 ∨ f = 11 ∨ f = 12 ∨ f = 13 ∨ (f ≠ 3 ∧ f ≠ 4 ∧ f ≠ 11 ∧ f ≠ 12 ∧ f ≠ 13)) with rfl | rfl | rfl | rfl | rfl | ⟨h3, h4, h11, h12, h13⟩
  case inr.inr.inr.inr.inr =>
    have e3 : ((f : Int) == 3) = false := by simp; omega
    have e4 : ((f : Int) == 4) = false := by simp; omega
    have e11 : ((f : Int) == 11) = false := by simp; omega
    have e12 : ((f : Int) == 12) = false := by simp; omega
    have e13 : ((f : Int) == 13) = false := by simp; omega
    have eg : goes f = false := by simp [goes, h3, h4, h11, h12, h13]
    rw [eg]
    clear h3 h4 h11 h12 h13 eg
    go_enter Tryd.func17, Tryd.ntmps17
    go_wp2_with fail
    refine (hr _ tb).mono ?_
    rintro e w1 ⟨rfl, h1⟩
    go_wp2
    go_ret
    exact ⟨rfl, h1⟩
  all_goals
    clear hx
    go_enter Tryd.func17, Tryd.ntmps17
    go_wp2_with fail
    refine (hr _ tb).mono ?_
    rintro e w1 ⟨rfl, h1⟩
    go_wp2
    go_ret
    exact ⟨rfl, h1⟩

theorem told_of {w op : Nat} {o s t d a i e : Int} (ho : op < 69) (hi : Dec.is w op = true) (h : Told w o s t d a i e) :
    o = (op : Int) ∧ s = (Dec.ds op w : Nat) ∧ t = (Dec.dt op w : Nat) ∧ d = (Dec.dd op w : Nat) ∧ a = (Dec.da op w : Nat) ∧ i = Dec.di op w ∧ e = 0 := by
  rcases h with ⟨o2, h2, i2, hr⟩ | ⟨hn, -⟩
  · rw [Dec.one h2 ho (Dec.is_shut h2 i2) (Dec.is_shut ho hi)] at hr; exact hr
  · rw [hn op ho] at hi; cases hi

theorem told_no {w : Nat} {o s t d a i e : Int} (hn : ∀ op < 69, Dec.is w op = false) (h : Told w o s t d a i e) :
    o = 0 ∧ s = 0 ∧ t = 0 ∧ d = 0 ∧ a = 0 ∧ i = 0 ∧ e = 40 := by
  rcases h with ⟨o2, h2, i2, hr⟩ | ⟨-, hr⟩
  · rw [hn o2 h2] at i2; cases i2
  · exact hr

theorem dec0 (w : World) (tb : Tabs w) :
    Calls Tryd.prog 9 #[.int .u32 0] w fun e' w' => e' = .returned (.tuple #[.agg #[.int .i64 0, .int .i64 0, .int .i64 0, .int .i64 0, .int .i64 0, .int .i64 0], .int .i64 0]) ∧ Below w.heap.size w w' := by
  obtain ⟨o, s, t, d, a, i, e, h, hc⟩ := decode_any 0 (by decide)
  obtain ⟨rfl, rfl, rfl, rfl, rfl, rfl, rfl⟩ := told_of (op := 0) (by decide) (by decide +kernel) h
  have := hc w tb
  rw [show Dec.ds 0 0 = 0 by decide +kernel, show Dec.dt 0 0 = 0 by decide +kernel, show Dec.dd 0 0 = 0 by decide +kernel, show Dec.da 0 0 = 0 by decide +kernel, show Dec.di 0 0 = 0 by decide +kernel] at this
  exact this

theorem decF (w : World) (tb : Tabs w) :
    Calls Tryd.prog 9 #[.int .u32 4294967295] w fun e' w' => e' = .returned (.tuple #[.agg #[.int .i64 0, .int .i64 0, .int .i64 0, .int .i64 0, .int .i64 0, .int .i64 0], .int .i64 40]) ∧ Below w.heap.size w w' := by
  obtain ⟨o, s, t, d, a, i, e, h, hc⟩ := decode_any 4294967295 (by decide)
  obtain ⟨rfl, rfl, rfl, rfl, rfl, rfl, rfl⟩ := told_no (by decide +kernel) h
  exact hc w tb

theorem good_addiu : Good 46 29 2 0 0 (-4) := by unfold Good; decide +kernel

theorem good_jr : ¬ Good 6 1 1 0 0 0 := by unfold Good; decide +kernel

theorem enc1 (w : World) (tb : Tabs w) :
    Calls Tryd.prog 12 #[.agg #[.int .i64 46, .int .i64 29, .int .i64 2, .int .i64 0, .int .i64 0, .int .i64 (-4)]] w fun e' w' => e' = .returned (.tuple #[.int .u32 664993788, .int .i64 0]) ∧ Below w.heap.size w w' := by
  obtain ⟨v, e, h, hc⟩ := encode_any 46 29 2 0 0 (-4)
  rcases h with ⟨op, ho, eo, hg, rfl, rfl⟩ | ⟨hn, -, -⟩
  · obtain rfl : op = 46 := by omega
    have := hc w tb
    rw [show Dec.laid 46 29 2 0 0 (-4) = 664993788 by decide +kernel] at this
    exact this
  · exact absurd good_addiu (hn 46 (by decide) (by decide))

theorem enc2 (w : World) (tb : Tabs w) :
    Calls Tryd.prog 12 #[.agg #[.int .i64 6, .int .i64 1, .int .i64 1, .int .i64 0, .int .i64 0, .int .i64 0]] w fun e' w' => e' = .returned (.tuple #[.int .u32 0, .int .i64 40]) ∧ Below w.heap.size w w' := by
  obtain ⟨v, e, h, hc⟩ := encode_any 6 1 1 0 0 0
  rcases h with ⟨op, ho, eo, hg, rfl, rfl⟩ | ⟨hn, rfl, rfl⟩
  · obtain rfl : op = 6 := by omega
    exact absurd hg good_jr
  · exact hc w tb

theorem name_68 (w : World) (tb : Tabs w) : Calls Tryd.prog 15 #[.int .i64 68] w fun e w' => e = .returned (.string ⟨#[115, 99]⟩) ∧ Below w.heap.size w w' := name_any 68 w tb

theorem form_61 (w : World) (tb : Tabs w) : Calls Tryd.prog 16 #[.int .i64 61] w fun e w' => e = .returned (.string ⟨#[77]⟩) ∧ Below w.heap.size w w' := form_any 61 w tb

theorem branch_39 (w : World) (tb : Tabs w) : Calls Tryd.prog 17 #[.int .i64 39] w fun e w' => e = .returned (.bool true) ∧ Below w.heap.size w w' := branch_any 39 w tb

theorem branch_20 (w : World) (tb : Tabs w) : Calls Tryd.prog 17 #[.int .i64 20] w fun e w' => e = .returned (.bool false) ∧ Below w.heap.size w w' := branch_any 20 w tb

theorem name_less (w : World) (tb : Tabs w) : Calls Tryd.prog 15 #[.int .i64 (-1)] w fun e w' => e = .returned (.string ⟨#[]⟩) ∧ Below w.heap.size w w' := name_any (-1) w tb

set_option maxHeartbeats 2000000 in
theorem facts_any (w : World) (tb : Tabs w) : Calls Tryd.prog 11 #[] w fun e w' => e = .returned (.bool true) ∧ Below w.heap.size w w' := by
  have hq := fun w => eql24 0 0 0 0 0 0 0 0 0 0 0 0 w
  rw [show same6 0 0 0 0 0 0 0 0 0 0 0 0 = true by decide] at hq
  go_enter Tryd.func11, Tryd.ntmps11
  go_wp2_with fail
  refine (dec0 _ tb).mono ?_
  rintro e w1 ⟨rfl, h1⟩
  go_wp2_with fail
  have g1 := grow w1 (.cells #[.int .i64 0, .int .i64 0, .int .i64 0, .int .i64 0, .int .i64 0, .int .i64 0] 24)
  have k1 := cell6 w1 24 (.int .i64 0) (.int .i64 0) (.int .i64 0) (.int .i64 0) (.int .i64 0) (.int .i64 0)
  have b1 := onto h1 g1
  have t1 := (tb.on h1).on g1
  clear g1 h1 tb
  generalize w1.alloc (.cells #[.int .i64 0, .int .i64 0, .int .i64 0, .int .i64 0, .int .i64 0, .int .i64 0] 24) = W at *
  generalize w1.heap.size = L at *
  clear w1
  refine (enc1 _ t1).mono ?_
  rintro e w2 ⟨rfl, h2⟩
  have k2 := k1.on h2
  have b2 := onto b1 h2
  have t2 := t1.on h2
  clear h2 t1 b1 k1
  clear W
  go_wp2_with fail
  refine (decF _ t2).mono ?_
  rintro e w3 ⟨rfl, h3⟩
  have k3 := k2.on h3
  have b3 := onto b2 h3
  have t3 := t2.on h3
  clear h3 t2 b2 k2
  clear w2
  go_wp2_with fail
  have g4 := grow w3 (.cells #[.int .i64 0, .int .i64 0, .int .i64 0, .int .i64 0, .int .i64 0, .int .i64 0] 24)
  have k4 := k3.on g4
  have b4 := onto b3 g4
  have t4 := t3.on g4
  clear g4 k3 b3 t3
  generalize w3.alloc (.cells #[.int .i64 0, .int .i64 0, .int .i64 0, .int .i64 0, .int .i64 0, .int .i64 0] 24) = W at *
  generalize w3.heap.size = R at *
  clear w3
  refine (enc2 _ t4).mono ?_
  rintro e w5 ⟨rfl, h5⟩
  have k5 := k4.on h5
  have b5 := onto b4 h5
  have t5 := t4.on h5
  clear h5 t4 b4 k4
  clear W
  obtain ⟨p0, p1, p2, p3, p4, p5⟩ := k5
  go_wp2_with fail
  refine (name_68 _ t5).mono ?_
  rintro e w6 ⟨rfl, h6⟩
  have b6 := onto b5 h6
  have t6 := t5.on h6
  clear h6 t5 b5 p0 p1 p2 p3 p4 p5
  go_wp2_with fail
  refine (form_61 _ t6).mono ?_
  rintro e w7 ⟨rfl, h7⟩
  have b7 := onto b6 h7
  have t7 := t6.on h7
  clear h7 t6 b6
  go_wp2_with fail
  refine (branch_39 _ t7).mono ?_
  rintro e w8 ⟨rfl, h8⟩
  have b8 := onto b7 h8
  have t8 := t7.on h8
  clear h8 t7 b7
  go_wp2_with fail
  refine (branch_20 _ t8).mono ?_
  rintro e w9 ⟨rfl, h9⟩
  have b9 := onto b8 h9
  have t9 := t8.on h9
  clear h9 t8 b8
  go_wp2_with fail
  refine (name_less _ t9).mono ?_
  rintro e w10 ⟨rfl, h10⟩
  have b10 := onto b9 h10
  clear h10 t9 b9
  go_wp2
  go_ret
  exact ⟨rfl, b10⟩

end Go.Proofs.YtljljpgkhojokaaDoor
