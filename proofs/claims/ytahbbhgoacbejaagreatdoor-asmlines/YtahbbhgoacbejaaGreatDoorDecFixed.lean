/- Name, Form and Branch, and the calls of layer 4 whose answers the document fixes. -/
import Derived.Test.YtahbbhgoacbejaaGreatDoorDecWalks5
namespace Go.Proofs.YtahbbhgoacbejaaGreatDoor
open Go.RowKit
set_option linter.unusedVariables false

theorem name_any (op : Int) (w : World) (tb : Tabs w) :
    Calls Tryz.prog 26 #[.int .i64 op] w fun e w' => e = .returned (.string (Dec.name (idx op))) ∧ Below w.heap.size w w' := by
  have hr := fun w tb => rowOf_any op w tb
  unfold rowV at hr
  have hn := row_name
  generalize Dec.name (idx op) = nm at *
  go_enter Tryz.func26, Tryz.ntmps26
  go_wp2_with fail
  refine (hr _ tb).mono ?_
  rintro e w1 ⟨rfl, h1⟩
  go_wp2
  go_ret
  exact ⟨rfl, h1⟩

theorem form_any (op : Int) (w : World) (tb : Tabs w) :
    Calls Tryz.prog 51 #[.int .i64 op] w fun e w' => e = .returned (.string (Dec.lname (Dec.fm (idx op)))) ∧ Below w.heap.size w w' := by
  have hr := fun w tb => rowOf_any op w tb
  have hl := fun w => layout_any (Dec.fm (idx op)) (idx_lt op) w
  unfold rowV at hr
  unfold layV at hl
  have hf := row_form
  have hn := lay_name
  generalize Dec.lname (Dec.fm (idx op)) = nm at *
  go_enter Tryz.func51, Tryz.ntmps51
  go_wp2_with fail
  refine (hr _ tb).mono ?_
  rintro e w1 ⟨rfl, h1⟩
  go_wp2_with fail
  refine (hl _).mono ?_
  rintro e w2 ⟨rfl, h2⟩
  go_wp2
  go_ret
  exact ⟨rfl, onto h1 h2⟩

/-- Is a form one of a branch or a jump? -/
def goes (f : Nat) : Bool := f == 3 || f == 4 || f == 11 || f == 12 || f == 13

theorem told_of {w op : Nat} {o s t d a i e : Int} (ho : op < 69) (hi : Dec.is w op = true) (h : Told w o s t d a i e) :
    o = (op : Int) ∧ s = (Dec.ds op w : Nat) ∧ t = (Dec.dt op w : Nat) ∧ d = (Dec.dd op w : Nat) ∧ a = (Dec.da op w : Nat) ∧ i = Dec.di op w ∧ e = 0 := by
  rcases h with ⟨o2, h2, i2, hr⟩ | ⟨hn, -⟩
  · rw [Dec.one h2 ho (Dec.is_shut h2 i2) (Dec.is_shut ho hi)] at hr; exact hr
  · rw [hn op ho] at hi; cases hi

theorem told_no {w : Nat} {o s t d a i e : Int} (hn : ∀ op < 69, Dec.is w op = false) (h : Told w o s t d a i e) :
    o = 0 ∧ s = 0 ∧ t = 0 ∧ d = 0 ∧ a = 0 ∧ i = 0 ∧ e = 40 := by
  rcases h with ⟨o2, h2, i2, hr⟩ | ⟨-, hr⟩
  · rw [hn o2 h2] at i2; cases i2
  · exact hr

theorem good_addiu : Good 46 29 2 0 0 (-4) := by unfold Good; decide +kernel

theorem good_jr : ¬ Good 6 1 1 0 0 0 := by unfold Good; decide +kernel

theorem enc1 (w : World) (tb : Tabs w) :
    Calls Tryz.prog 14 #[.agg #[.int .i64 46, .int .i64 29, .int .i64 2, .int .i64 0, .int .i64 0, .int .i64 (-4)]] w fun e' w' => e' = .returned (.tuple #[.int .u32 664993788, .int .i64 0]) ∧ Below w.heap.size w w' := by
  obtain ⟨v, e, h, hc⟩ := encode_any 46 29 2 0 0 (-4)
  rcases h with ⟨op, ho, eo, hg, rfl, rfl⟩ | ⟨hn, -, -⟩
  · obtain rfl : op = 46 := by omega
    have := hc w tb
    rw [show Dec.laid 46 29 2 0 0 (-4) = 664993788 by decide +kernel] at this
    exact this
  · exact absurd good_addiu (hn 46 (by decide) (by decide))

theorem enc2 (w : World) (tb : Tabs w) :
    Calls Tryz.prog 14 #[.agg #[.int .i64 6, .int .i64 1, .int .i64 1, .int .i64 0, .int .i64 0, .int .i64 0]] w fun e' w' => e' = .returned (.tuple #[.int .u32 0, .int .i64 40]) ∧ Below w.heap.size w w' := by
  obtain ⟨v, e, h, hc⟩ := encode_any 6 1 1 0 0 0
  rcases h with ⟨op, ho, eo, hg, rfl, rfl⟩ | ⟨hn, rfl, rfl⟩
  · obtain rfl : op = 6 := by omega
    exact absurd hg good_jr
  · exact hc w tb

theorem name_68 (w : World) (tb : Tabs w) : Calls Tryz.prog 26 #[.int .i64 68] w fun e w' => e = .returned (.string ⟨#[115, 99]⟩) ∧ Below w.heap.size w w' := name_any 68 w tb

theorem form_61 (w : World) (tb : Tabs w) : Calls Tryz.prog 51 #[.int .i64 61] w fun e w' => e = .returned (.string ⟨#[77]⟩) ∧ Below w.heap.size w w' := form_any 61 w tb

theorem name_less (w : World) (tb : Tabs w) : Calls Tryz.prog 26 #[.int .i64 (-1)] w fun e w' => e = .returned (.string ⟨#[]⟩) ∧ Below w.heap.size w w' := name_any (-1) w tb

end Go.Proofs.YtahbbhgoacbejaaGreatDoor
