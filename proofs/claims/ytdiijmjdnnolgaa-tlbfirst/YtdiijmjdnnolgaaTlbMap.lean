/- Layer 7: contracts of Map, of the program and of the document. -/
import Derived.Test.YtdiijmjdnnolgaaTlbFind
namespace Go.Proofs.Ytdiijmjdnnolgaa
open Go.RowKit
set_option linter.unusedVariables false

/-- What becomes of an address, if the slot that fits is k (-1: there is none): a word, and how it is told. -/
def mapV (T : Nat → Int) (a : Int) (wr : Bool) (k : Int) : Int × Int :=
  if k < 0 then (0, 1) else if T (k.toNat * 2 + 1) / 2 % 2 = 0 then (0, 2) else if wr = true ∧ T (k.toNat * 2 + 1) / 4 % 2 = 0 then (0, 3) else (joinV (T (k.toNat * 2 + 1)) a, 0)

theorem cells_on {T : Nat → Int} {w y : World} {t : TypeId} (hb : Below (w.alloc (.cells (cellsT T) t)).heap.size (w.alloc (.cells (cellsT T) t)) y) (j : Nat) (hj : j < 16) : y.cell? ⟨w.heap.size, j, none⟩ = some (.int .u32 (T j)) := by
  rw [(bcell hb).1 _ _ (by simp)]
  simp [get_cellsT T j hj]

theorem map_any (T : Nat → Int) (a s : Int) (wr : Bool) (hT : Wd T) (a0 : 0 ≤ a) (a1 : a < 4294967296) (s0 : 0 ≤ s) (s1 : s < 4294967296) (w : World) :
    Calls Try.prog 11 #[.agg (cellsT T), .int .u32 a, .int .u32 s, .bool wr] w fun e w' =>
      ∃ k, FindIs T a s k ∧ e = .returned (.tuple #[.int .u32 (mapV T a wr k).1, .int .i64 (mapV T a wr k).2]) ∧ Below w.heap.size w w' := by
  obtain ⟨t1, t2, t3, t4, t5, t6, t7, t8, t9⟩ := tlbRules
  go_enter Try.func11, Try.ntmps11
  go_wp2_with fail
  refine (find_any T a s hT a0 a1 s0 s1 _).mono ?_
  rintro e w1 ⟨k, hF, rfl, hb⟩
  have hB := hide (((Below.refl _ w).alloc (Nat.le_refl _) (.cells (cellsT T) 26)).trans (hb.mono (by simp)))
  have hc := cells_on hb
  clear hb
  have hF' := hide hF
  rcases hF with ⟨rfl, _⟩ | ⟨i, hi, rfl, _, _⟩
  · go_wp2
    go_ret2
    exact ⟨-1, hF'.out, rfl, hB.out⟩
  · have c0 := hc (i * 2) (by omega)
    have c1 := hc (i * 2 + 1) (by omega)
    have z1 : w.heap.size < w1.heap.size := World.block_lt_of_cell? _ _ c0
    have w1' := hT (i * 2 + 1)
    have hV : mapV T a wr (i : Int) = if T (i * 2 + 1) / 2 % 2 = 0 then (0, 2) else if wr = true ∧ T (i * 2 + 1) / 4 % 2 = 0 then (0, 3) else (joinV (T (i * 2 + 1)) a, 0) := by
      unfold mapV
      rw [if_neg (by omega)]
      rfl
    have hQ : ((i : Int) == -1) = false := by simp
    obtain ⟨l, hl⟩ : ∃ l, Hid (l = T (i * 2 + 1)) := ⟨_, hide rfl⟩
    rw [← hl.out] at c1 w1' hV
    clear hl hc
    obtain ⟨l0, l1⟩ := w1'
    have hV := hide hV
    by_cases q1 : l / 2 % 2 = 0
    · have d1 : bits .and .u32 l 2 = 0 := by rw [and2 l l0 l1]; omega
      have hW := hide (show mapV T a wr (i : Int) = (0, 2) by rw [hV.out, if_pos q1])
      clear hV q1
      go_wp2
      go_ret2
      exact ⟨i, hF'.out, by rw [hW.out]; rfl, hB.out.alloc hB.out.size _⟩
    · have d1 : bits .and .u32 l 2 = 2 := by rw [and2 l l0 l1]; omega
      by_cases q2 : wr = true ∧ l / 4 % 2 = 0
      · have hW := hide (show mapV T a wr (i : Int) = (0, 3) by rw [hV.out, if_neg q1, if_pos q2])
        obtain ⟨rfl, q2⟩ := q2
        have d2 : bits .and .u32 l 4 = 0 := by rw [and4 l l0 l1]; omega
        clear hV q1 q2
        go_wp2
        go_ret2
        exact ⟨i, hF'.out, by rw [hW.out]; rfl, hB.out.alloc hB.out.size _⟩
      · have hW := hide (show mapV T a wr (i : Int) = (joinV l a, 0) by rw [hV.out, if_neg q1, if_neg q2])
        have cj := fun w => join_any l a l0 l1 a0 a1 w
        cases wr
        · clear hV q1 q2
          go_wp2_with (go_at_call 17; refine (cj _).mono ?_; rintro e w' ⟨rfl, rfl⟩)
          go_ret2
          exact ⟨i, hF'.out, by rw [hW.out]; rfl, hB.out.alloc hB.out.size _⟩
        · have d2 : bits .and .u32 l 4 = 4 := by simp at q2; rw [and4 l l0 l1]; omega
          clear hV q1 q2
          go_wp2_with (go_at_call 17; refine (cj _).mono ?_; rintro e w' ⟨rfl, rfl⟩)
          go_ret2
          exact ⟨i, hF'.out, by rw [hW.out]; rfl, hB.out.alloc hB.out.size _⟩

theorem rmap_any (T : Nat → Int) (a s : Int) (wr : Bool) (hT : Wd T) (a0 : 0 ≤ a) (a1 : a < 4294967296) (s0 : 0 ≤ s) (s1 : s < 4294967296) (w : World) :
    Calls Try.prog 12 #[.agg (cellsT T), .int .u32 a, .int .u32 s, .bool wr] w fun e w' =>
      ∃ k, FindIs T a s k ∧ e = .returned (.tuple #[.int .u32 (mapV T a wr k).1, .int .i64 (mapV T a wr k).2]) ∧ Below w.heap.size w w' := by
  obtain ⟨t1, t2, t3, t4, t5, t6, t7, t8, t9⟩ := tlbRules
  go_enter Try.func12, Try.ntmps12
  go_wp2_with fail
  refine (rfind_any T a s hT a0 a1 s0 s1 _).mono ?_
  rintro e w1 ⟨k, hF, rfl, hb⟩
  have hB := hide (((Below.refl _ w).alloc (Nat.le_refl _) (.cells (cellsT T) 26)).trans (hb.mono (by simp)))
  have hc := cells_on hb
  clear hb
  have hF' := hide hF
  rcases hF with ⟨rfl, _⟩ | ⟨i, hi, rfl, _, _⟩
  · go_wp2
    go_ret2
    exact ⟨-1, hF'.out, rfl, hB.out⟩
  · have c1 := hc (i * 2 + 1) (by omega)
    have z1 : w.heap.size < w1.heap.size := World.block_lt_of_cell? _ _ c1
    have w1' := hT (i * 2 + 1)
    have hV : mapV T a wr (i : Int) = if T (i * 2 + 1) / 2 % 2 = 0 then (0, 2) else if wr = true ∧ T (i * 2 + 1) / 4 % 2 = 0 then (0, 3) else (joinV (T (i * 2 + 1)) a, 0) := by
      unfold mapV
      rw [if_neg (by omega)]
      rfl
    have hQ : decide ((i : Int) < 0) = false := by simp
    obtain ⟨l, hl⟩ : ∃ l, Hid (l = T (i * 2 + 1)) := ⟨_, hide rfl⟩
    rw [← hl.out] at c1 w1' hV
    clear hl hc
    obtain ⟨l0, l1⟩ := w1'
    have hV := hide hV
    by_cases q1 : l / 2 % 2 = 0
    · have d1 : (l / 2 % 2 == 0) = true := by simp [q1]
      have hW := hide (show mapV T a wr (i : Int) = (0, 2) by rw [hV.out, if_pos q1])
      clear hV q1
      go_wp2
      go_ret2
      exact ⟨i, hF'.out, by rw [hW.out]; rfl, hB.out⟩
    · have d1 : (l / 2 % 2 == 0) = false := by simp; omega
      by_cases q2 : wr = true ∧ l / 4 % 2 = 0
      · have hW := hide (show mapV T a wr (i : Int) = (0, 3) by rw [hV.out, if_neg q1, if_pos q2])
        obtain ⟨rfl, q2⟩ := q2
        have d2 : (l / 4 % 2 == 0) = true := by simp [q2]
        clear hV q1 q2
        go_wp2
        go_ret2
        exact ⟨i, hF'.out, by rw [hW.out]; rfl, hB.out⟩
      · have hW := hide (show mapV T a wr (i : Int) = (l / 256 * 256 + a % 256, 0) by rw [hV.out, if_neg q1, if_neg q2]; rfl)
        cases wr
        · clear hV q1 q2
          go_wp2
          go_ret2
          exact ⟨i, hF'.out, by rw [hW.out]; rfl, hB.out⟩
        · have d2 : (l / 4 % 2 == 0) = false := by simp at q2 ⊢; omega
          clear hV q1 q2
          go_wp2
          go_ret2
          exact ⟨i, hF'.out, by rw [hW.out]; rfl, hB.out⟩

end Go.Proofs.Ytdiijmjdnnolgaa
