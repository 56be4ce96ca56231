/- The contracts of the document's table, and of its branches. -/
import Derived.Test.YtljljpgkhojokaaDoorDecAt1
import Derived.Test.YtljljpgkhojokaaDoorDecAt2
import Derived.Test.YtljljpgkhojokaaDoorDecAt3
import Derived.Test.YtljljpgkhojokaaDoorDecFixed
namespace Go.Proofs.YtljljpgkhojokaaDoor
open Go.RowKit
set_option linter.unusedVariables false

/-- A row of the document's table. -/
def atV (i : Nat) : Value := .agg #[.string (Dec.name i), .string (Dec.lname (Dec.fm i)), .int .i64 (Dec.mj i : Nat), .int .i64 (Dec.mn i : Nat)]

theorem set4 {n b : Nat} {w W : World} {v0 v1 v2 v3 : Value} (h : Below n w W) (hb : n ≤ b) : Below n w ((((W.setCell ⟨b, 0, none⟩ v0).setCell ⟨b, 1, none⟩ v1).setCell ⟨b, 2, none⟩ v2).setCell ⟨b, 3, none⟩ v3) :=
  (((h.setCell hb _).setCell hb _).setCell hb _).setCell hb _

theorem at_raw {op : Int} {nm fm : ByteArray} {j n : Int} {b c : Bool} (h1 : decide (op < 23) = b) (h2 : decide (op < 46) = c)
    (hA : b = true → ∀ w, Calls Tryd.prog 28 #[.int .i64 op] w fun e w' => e = .returned (.agg #[.string nm, .string fm, .int .i64 j, .int .i64 n]) ∧ Below w.heap.size w w')
    (hB : b = false → c = true → ∀ w, Calls Tryd.prog 29 #[.int .i64 op] w fun e w' => e = .returned (.agg #[.string nm, .string fm, .int .i64 j, .int .i64 n]) ∧ Below w.heap.size w w')
    (hC : b = false → c = false → ∀ w, Calls Tryd.prog 30 #[.int .i64 op] w fun e w' => e = .returned (.agg #[.string nm, .string fm, .int .i64 j, .int .i64 n]) ∧ Below w.heap.size w w') (w : World) :
    Calls Tryd.prog 14 #[.int .i64 op] w fun e w' => e = .returned (.agg #[.string nm, .string fm, .int .i64 j, .int .i64 n]) ∧ Below w.heap.size w w' := by
  have g0 := grow w (.cells #[.string ⟨#[]⟩, .string ⟨#[]⟩, .int .i64 0, .int .i64 0] 34)
  have i0 := cell4 w 34 (.string ⟨#[]⟩) (.string ⟨#[]⟩) (.int .i64 0) (.int .i64 0)
  have f0 : ∀ o, (w.alloc (.cells #[.string ⟨#[]⟩, .string ⟨#[]⟩, .int .i64 0, .int .i64 0] 34)).frozen? ⟨w.heap.size, o, none⟩ = false := by intro o; simp [go_sem]
  cases b
  · cases c
    · go_enter Tryd.func14, Tryd.ntmps14
      go_wp2_with fail
      refine (hC trivial trivial _).mono ?_
      rintro e w1 ⟨rfl, k1⟩
      have f1 : ∀ o, w1.frozen? ⟨w.heap.size, o, none⟩ = false := fun o => by rw [(bcell k1).2 _ _ (by simp), f0]
      obtain ⟨p0, p1, p2, p3⟩ := i0.on k1
      have b1 := onto g0 k1
      clear g0 i0 f0 k1 hA hB hC
      go_wp2
      exact bodyPost_ret (v := .agg #[.string nm, .string fm, .int .i64 j, .int .i64 n]) (by simp [results, Tryd.results14, go_sem, p0, p1, p2, p3]) rfl ⟨rfl, set4 b1 (Nat.le_refl _)⟩
    · go_enter Tryd.func14, Tryd.ntmps14
      go_wp2_with fail
      refine (hB trivial trivial _).mono ?_
      rintro e w1 ⟨rfl, k1⟩
      have f1 : ∀ o, w1.frozen? ⟨w.heap.size, o, none⟩ = false := fun o => by rw [(bcell k1).2 _ _ (by simp), f0]
      obtain ⟨p0, p1, p2, p3⟩ := i0.on k1
      have b1 := onto g0 k1
      clear g0 i0 f0 k1 hA hB hC
      go_wp2
      exact bodyPost_ret (v := .agg #[.string nm, .string fm, .int .i64 j, .int .i64 n]) (by simp [results, Tryd.results14, go_sem, p0, p1, p2, p3]) rfl ⟨rfl, set4 b1 (Nat.le_refl _)⟩
  · go_enter Tryd.func14, Tryd.ntmps14
    go_wp2_with fail
    refine (hA trivial _).mono ?_
    rintro e w1 ⟨rfl, k1⟩
    have f1 : ∀ o, w1.frozen? ⟨w.heap.size, o, none⟩ = false := fun o => by rw [(bcell k1).2 _ _ (by simp), f0]
    obtain ⟨p0, p1, p2, p3⟩ := i0.on k1
    have b1 := onto g0 k1
    clear g0 i0 f0 k1 hA hB hC
    go_wp2
    exact bodyPost_ret (v := .agg #[.string nm, .string fm, .int .i64 j, .int .i64 n]) (by simp [results, Tryd.results14, go_sem, p0, p1, p2, p3]) rfl ⟨rfl, set4 b1 (Nat.le_refl _)⟩

theorem at_any (op : Int) (w : World) :
    Calls Tryd.prog 14 #[.int .i64 op] w fun e w' => e = .returned (.agg #[.string (Dec.name (idx op)), .string (Dec.lname (Dec.fm (idx op))), .int .i64 (Dec.mj (idx op) : Nat), .int .i64 (Dec.mn (idx op) : Nat)]) ∧ Below w.heap.size w w' := by
  refine at_raw rfl rfl (fun h w => ?_) (fun h h' w => ?_) (fun h h' w => ?_) w
  · have h := of_decide_eq_true h
    by_cases h0 : 0 ≤ op
    · obtain ⟨k, rfl⟩ : ∃ k : Nat, op = (k : Int) := ⟨op.toNat, by omega⟩
      have e : idx (k : Int) = k := by unfold idx; rw [if_pos (by omega)]; omega
      rw [e]
      exact first_any k (by omega) (by omega) w
    · have e : idx op = 69 := by unfold idx; rw [if_neg (by omega)]
      rw [e]
      exact first_none op (by omega) w
  · have h := of_decide_eq_false h
    have h' := of_decide_eq_true h'
    obtain ⟨k, rfl⟩ : ∃ k : Nat, op = (k : Int) := ⟨op.toNat, by omega⟩
    have e : idx (k : Int) = k := by unfold idx; rw [if_pos (by omega)]; omega
    rw [e]
    exact second_any k (by omega) (by omega) w
  · have h := of_decide_eq_false h
    have h' := of_decide_eq_false h'
    by_cases h0 : op < 69
    · obtain ⟨k, rfl⟩ : ∃ k : Nat, op = (k : Int) := ⟨op.toNat, by omega⟩
      have e : idx (k : Int) = k := by unfold idx; rw [if_pos (by omega)]; omega
      rw [e]
      exact third_any k (by omega) (by omega) w
    · have e : idx op = 69 := by unfold idx; rw [if_neg (by omega)]
      rw [e]
      exact third_none op (by omega) w

theorem at_form (v0 v1 v2 v3 : Value) (w : World) : (Instr.field 34 (.agg #[v0, v1, v2, v3]) 1).run Tryd.prog w = .ok v1 w := by kernel_rfl

theorem rbranch_raw {op : Int} {nm F : ByteArray} {j n : Int} {c : Bool}
    (hA : ∀ w, Calls Tryd.prog 14 #[.int .i64 op] w fun e w' => e = .returned (.agg #[.string nm, .string F, .int .i64 j, .int .i64 n]) ∧ Below w.heap.size w w')
    (hc : (c = true ∧ F.toList = [74, 82]) ∨ (c = true ∧ F.toList = [74, 65, 76, 82]) ∨ (c = true ∧ F.toList = [66, 90]) ∨ (c = true ∧ F.toList = [66, 50]) ∨ (c = true ∧ F.toList = [74]) ∨
      (c = false ∧ ¬ F.toList = [74, 82] ∧ (F.toList == [74, 82]) = false ∧ ¬ F.toList = [74, 65, 76, 82] ∧ (F.toList == [74, 65, 76, 82]) = false ∧ ¬ F.toList = [66, 90] ∧ (F.toList == [66, 90]) = false ∧ ¬ F.toList = [66, 50] ∧ (F.toList == [66, 50]) = false ∧ ¬ F.toList = [74] ∧ (F.toList == [74]) = false)) (w : World) :
    Calls Tryd.prog 18 #[.int .i64 op] w fun e w' => e = .returned (.bool c) ∧ Below w.heap.size w w' := by
  have hf := at_form
  rcases hc with ⟨rfl, h⟩ | ⟨rfl, h⟩ | ⟨rfl, h⟩ | ⟨rfl, h⟩ | ⟨rfl, h⟩ | ⟨rfl, h1, h2, h3, h4, h5, h6, h7, h8, h9, h10⟩
  all_goals
    go_enter Tryd.func18, Tryd.ntmps18
    go_wp2_with fail
    refine (hA _).mono ?_
    rintro e w1 ⟨rfl, k1⟩
    go_wp2
    go_ret
    exact ⟨rfl, k1⟩

theorem go3 : ∀ f < 20, f ≠ 3 → (Dec.lname f).data.toList ≠ [74, 82] := by decide +kernel
theorem go4 : ∀ f < 20, f ≠ 4 → (Dec.lname f).data.toList ≠ [74, 65, 76, 82] := by decide +kernel
theorem go11 : ∀ f < 20, f ≠ 11 → (Dec.lname f).data.toList ≠ [66, 90] := by decide +kernel
theorem go13 : ∀ f < 20, f ≠ 13 → (Dec.lname f).data.toList ≠ [66, 50] := by decide +kernel
theorem go12 : ∀ f < 20, f ≠ 12 → (Dec.lname f).data.toList ≠ [74] := by decide +kernel

theorem rbranch_any (op : Int) (w : World) :
    Calls Tryd.prog 18 #[.int .i64 op] w fun e w' => e = .returned (.bool (goes (Dec.fm (idx op)))) ∧ Below w.heap.size w w' := by
  refine rbranch_raw (fun w => at_any op w) ?_ w
  have hf := idx_lt op
  generalize Dec.fm (idx op) = f at *
  by_cases h3 : f = 3
  · exact Or.inl ⟨by rw [h3]; rfl, by rw [ByteArray.toList_eq, h3]; rfl⟩
  by_cases h4 : f = 4
  · exact Or.inr (Or.inl ⟨by rw [h4]; rfl, by rw [ByteArray.toList_eq, h4]; rfl⟩)
  by_cases h11 : f = 11
  · exact Or.inr (Or.inr (Or.inl ⟨by rw [h11]; rfl, by rw [ByteArray.toList_eq, h11]; rfl⟩))
  by_cases h13 : f = 13
  · exact Or.inr (Or.inr (Or.inr (Or.inl ⟨by rw [h13]; rfl, by rw [ByteArray.toList_eq, h13]; rfl⟩)))
  by_cases h12 : f = 12
  · exact Or.inr (Or.inr (Or.inr (Or.inr (Or.inl ⟨by rw [h12]; rfl, by rw [ByteArray.toList_eq, h12]; rfl⟩))))
  · have l1 := go3 f hf h3
    have l2 := go4 f hf h4
    have l3 := go11 f hf h11
    have l4 := go13 f hf h13
    have l5 := go12 f hf h12
    rw [← ByteArray.toList_eq] at l1 l2 l3 l4 l5
    exact Or.inr (Or.inr (Or.inr (Or.inr (Or.inr ⟨by simp [goes, h3, h4, h11, h12, h13], l1, by simpa using l1, l2, by simpa using l2, l3, by simpa using l3, l4, by simpa using l4, l5, by simpa using l5⟩))))

set_option maxHeartbeats 4000000 in
theorem names_raw {op : Int} {nm F : ByteArray} {j n : Int} {c : Bool}
    (hA : ∀ w, Calls Tryd.prog 14 #[.int .i64 op] w fun e w' => e = .returned (.agg #[.string nm, .string F, .int .i64 j, .int .i64 n]) ∧ Below w.heap.size w w')
    (hN : ∀ w, Tabs w → Calls Tryd.prog 15 #[.int .i64 op] w fun e w' => e = .returned (.string nm) ∧ Below w.heap.size w w')
    (hF : ∀ w, Tabs w → Calls Tryd.prog 16 #[.int .i64 op] w fun e w' => e = .returned (.string F) ∧ Below w.heap.size w w')
    (hB : ∀ w, Tabs w → Calls Tryd.prog 17 #[.int .i64 op] w fun e w' => e = .returned (.bool c) ∧ Below w.heap.size w w')
    (hR : ∀ w, Calls Tryd.prog 18 #[.int .i64 op] w fun e w' => e = .returned (.bool c) ∧ Below w.heap.size w w') (w : World) (tb : Tabs w) :
    Calls Tryd.prog 5 #[.int .i64 op] w fun e w' => e = .returned (.bool true) ∧ Below w.heap.size w w' := by
  go_enter Tryd.func5, Tryd.ntmps5
  go_wp2_with fail
  refine (hA _).mono ?_
  rintro e w1 ⟨rfl, k1⟩
  go_wp2_with fail
  have g1 := grow w1 (.cells #[.string nm, .string F, .int .i64 j, .int .i64 n] 34)
  have c1 := cell4 w1 34 (.string nm) (.string F) (.int .i64 j) (.int .i64 n)
  have b1 := onto k1 g1
  have t1 := (tb.on k1).on g1
  clear k1 g1 tb hA
  generalize w1.alloc (.cells #[.string nm, .string F, .int .i64 j, .int .i64 n] 34) = V at *
  generalize w1.heap.size = L at *
  clear w1
  obtain ⟨q0, q1, q2, q3⟩ := c1
  have z1 := cell_in q0
  cases c <;>
  (go_region_held3 (fun x => (∀ b o, b < V.heap.size → x.cell? ⟨b, o, none⟩ = V.cell? ⟨b, o, none⟩) ∧ Below V.heap.size V x)
    (first | exact since_refl V | assumption)
    (first
      | (go_at_call 11; refine (facts_any _ (t1.on (And.right (by assumption)))).mono ?_; rintro e w' ⟨rfl, hn⟩; have hT := since_on (by assumption) hn; clear hn)
      | (go_at_call 15; refine (hN _ (t1.on (And.right (by assumption)))).mono ?_; rintro e w' ⟨rfl, hn⟩; have hT := since_on (by assumption) hn; clear hn)
      | (go_at_call 16; refine (hF _ (t1.on (And.right (by assumption)))).mono ?_; rintro e w' ⟨rfl, hn⟩; have hT := since_on (by assumption) hn; clear hn)
      | (go_at_call 17; refine (hB _ (t1.on (And.right (by assumption)))).mono ?_; rintro e w' ⟨rfl, hn⟩; have hT := since_on (by assumption) hn; clear hn)
      | (go_at_call 18; refine (hR _).mono ?_; rintro e w' ⟨rfl, hn⟩; have hT := since_on (by assumption) hn; clear hn))
   go_wp2
   go_ret
   exact ⟨rfl, onto b1 hT.2⟩)

theorem names_walk (op : Int) (w : World) (tb : Tabs w) : Calls Tryd.prog 5 #[.int .i64 op] w fun e w' => e = .returned (.bool true) ∧ Below w.heap.size w w' :=
  names_raw (fun w => at_any op w) (fun w tb => name_any op w tb) (fun w tb => form_any op w tb) (fun w tb => branch_any op w tb) (fun w => rbranch_any op w) w tb

end Go.Proofs.YtljljpgkhojokaaDoor
