/- The contracts of the document's table, and of its branches. -/
import Derived.Test.YtbgklaahmmfpjaaDoorQDecAt1
import Derived.Test.YtbgklaahmmfpjaaDoorQDecAt2
import Derived.Test.YtbgklaahmmfpjaaDoorQDecAt3
import Derived.Test.YtbgklaahmmfpjaaDoorQDeAll
namespace Go.Proofs.YtbgklaahmmfpjaaDoor.De
open Go.RowKit
set_option linter.unusedVariables false
set_option maxRecDepth 100000

/-- A row of the document's table. -/
def atV (i : Nat) : Value := .agg #[.string (Dec.name i), .string (Dec.lname (Dec.fm i)), .int .i64 (Dec.mj i : Nat), .int .i64 (Dec.mn i : Nat)]

theorem set4 {n b : Nat} {w W : World} {v0 v1 v2 v3 : Value} (h : Below n w W) (hb : n ≤ b) : Below n w ((((W.setCell ⟨b, 0, none⟩ v0).setCell ⟨b, 1, none⟩ v1).setCell ⟨b, 2, none⟩ v2).setCell ⟨b, 3, none⟩ v3) :=
  (((h.setCell hb _).setCell hb _).setCell hb _).setCell hb _

theorem at_raw {op : Int} {nm fm : ByteArray} {j n : Int} {b c : Bool} (h1 : decide (op < 23) = b) (h2 : decide (op < 46) = c)
    (hA : b = true → ∀ w, Calls Tryd.prog 17 #[.int .i64 op] w fun e w' => e = .returned (.agg #[.string nm, .string fm, .int .i64 j, .int .i64 n]) ∧ Below w.heap.size w w')
    (hB : b = false → c = true → ∀ w, Calls Tryd.prog 18 #[.int .i64 op] w fun e w' => e = .returned (.agg #[.string nm, .string fm, .int .i64 j, .int .i64 n]) ∧ Below w.heap.size w w')
    (hC : b = false → c = false → ∀ w, Calls Tryd.prog 19 #[.int .i64 op] w fun e w' => e = .returned (.agg #[.string nm, .string fm, .int .i64 j, .int .i64 n]) ∧ Below w.heap.size w w') (w : World) :
    Calls Tryd.prog 9 #[.int .i64 op] w fun e w' => e = .returned (.agg #[.string nm, .string fm, .int .i64 j, .int .i64 n]) ∧ Below w.heap.size w w' := by
  have g0 := grow w (.cells #[.string ⟨#[]⟩, .string ⟨#[]⟩, .int .i64 0, .int .i64 0] 37)
  have i0 := cell4 w 37 (.string ⟨#[]⟩) (.string ⟨#[]⟩) (.int .i64 0) (.int .i64 0)
  have f0 : ∀ o, (w.alloc (.cells #[.string ⟨#[]⟩, .string ⟨#[]⟩, .int .i64 0, .int .i64 0] 37)).frozen? ⟨w.heap.size, o, none⟩ = false := by intro o; simp [go_sem]
  cases b
  · cases c
    · go_enter Tryd.func9, Tryd.ntmps9
      go_wp2_with fail
      refine (hC trivial trivial _).mono ?_
      rintro e w1 ⟨rfl, k1⟩
      have f1 : ∀ o, w1.frozen? ⟨w.heap.size, o, none⟩ = false := fun o => by rw [(bcell k1).2 _ _ (by simp), f0]
      obtain ⟨p0, p1, p2, p3⟩ := i0.on k1
      have b1 := onto g0 k1
      clear g0 i0 f0 k1 hA hB hC
      go_wp2
      exact bodyPost_ret (v := .agg #[.string nm, .string fm, .int .i64 j, .int .i64 n]) (by simp [results, Tryd.results9, go_sem, p0, p1, p2, p3]) rfl ⟨rfl, set4 b1 (Nat.le_refl _)⟩
    · go_enter Tryd.func9, Tryd.ntmps9
      go_wp2_with fail
      refine (hB trivial trivial _).mono ?_
      rintro e w1 ⟨rfl, k1⟩
      have f1 : ∀ o, w1.frozen? ⟨w.heap.size, o, none⟩ = false := fun o => by rw [(bcell k1).2 _ _ (by simp), f0]
      obtain ⟨p0, p1, p2, p3⟩ := i0.on k1
      have b1 := onto g0 k1
      clear g0 i0 f0 k1 hA hB hC
      go_wp2
      exact bodyPost_ret (v := .agg #[.string nm, .string fm, .int .i64 j, .int .i64 n]) (by simp [results, Tryd.results9, go_sem, p0, p1, p2, p3]) rfl ⟨rfl, set4 b1 (Nat.le_refl _)⟩
  · go_enter Tryd.func9, Tryd.ntmps9
    go_wp2_with fail
    refine (hA trivial _).mono ?_
    rintro e w1 ⟨rfl, k1⟩
    have f1 : ∀ o, w1.frozen? ⟨w.heap.size, o, none⟩ = false := fun o => by rw [(bcell k1).2 _ _ (by simp), f0]
    obtain ⟨p0, p1, p2, p3⟩ := i0.on k1
    have b1 := onto g0 k1
    clear g0 i0 f0 k1 hA hB hC
    go_wp2
    exact bodyPost_ret (v := .agg #[.string nm, .string fm, .int .i64 j, .int .i64 n]) (by simp [results, Tryd.results9, go_sem, p0, p1, p2, p3]) rfl ⟨rfl, set4 b1 (Nat.le_refl _)⟩

theorem at_any (op : Int) (w : World) :
    Calls Tryd.prog 9 #[.int .i64 op] w fun e w' => e = .returned (.agg #[.string (Dec.name (idx op)), .string (Dec.lname (Dec.fm (idx op))), .int .i64 (Dec.mj (idx op) : Nat), .int .i64 (Dec.mn (idx op) : Nat)]) ∧ Below w.heap.size w w' := by
  refine at_raw rfl rfl (fun h w => ?_) (fun h h' w => ?_) (fun h h' w => ?_) w
  · have h := of_decide_eq_true h
    by_cases h0 : 0 ≤ op
    · obtain ⟨k, rfl⟩ : ∃ k : Nat, op = (k : Int) := ⟨op.toNat, by omega⟩
      have e : idx (k : Int) = k := by unfold idx; rw [if_pos (by omega)]; omega
      rw [e]
      exact first_any k (by omega) (by omega) w
    · have e : idx op = 69 := by unfold idx; rw [if_neg (by omega)]
      rw [e]
      exact first_none op (by omega) w
  · have h := of_decide_eq_false h
    have h' := of_decide_eq_true h'
    obtain ⟨k, rfl⟩ : ∃ k : Nat, op = (k : Int) := ⟨op.toNat, by omega⟩
    have e : idx (k : Int) = k := by unfold idx; rw [if_pos (by omega)]; omega
    rw [e]
    exact second_any k (by omega) (by omega) w
  · have h := of_decide_eq_false h
    have h' := of_decide_eq_false h'
    by_cases h0 : op < 69
    · obtain ⟨k, rfl⟩ : ∃ k : Nat, op = (k : Int) := ⟨op.toNat, by omega⟩
      have e : idx (k : Int) = k := by unfold idx; rw [if_pos (by omega)]; omega
      rw [e]
      exact third_any k (by omega) (by omega) w
    · have e : idx op = 69 := by unfold idx; rw [if_neg (by omega)]
      rw [e]
      exact third_none op (by omega) w

theorem at_form (v0 v1 v2 v3 : Value) (w : World) : (Instr.field 37 (.agg #[v0, v1, v2, v3]) 1).run Tryd.prog w = .ok v1 w := by kernel_rfl

theorem go3 : ∀ f < 20, f ≠ 3 → (Dec.lname f).data.toList ≠ [74, 82] := by decide +kernel
theorem go4 : ∀ f < 20, f ≠ 4 → (Dec.lname f).data.toList ≠ [74, 65, 76, 82] := by decide +kernel
theorem go11 : ∀ f < 20, f ≠ 11 → (Dec.lname f).data.toList ≠ [66, 90] := by decide +kernel
theorem go13 : ∀ f < 20, f ≠ 13 → (Dec.lname f).data.toList ≠ [66, 50] := by decide +kernel
theorem go12 : ∀ f < 20, f ≠ 12 → (Dec.lname f).data.toList ≠ [74] := by decide +kernel

end Go.Proofs.YtbgklaahmmfpjaaDoor.De
