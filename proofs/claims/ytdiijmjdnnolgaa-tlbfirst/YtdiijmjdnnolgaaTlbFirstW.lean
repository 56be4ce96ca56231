/- Of two slots that fit the first one counts; behind a write that fits it is found, if no slot ahead fits. -/
import Derived.Test.YtdiijmjdnnolgaaTlbBackW
import Derived.Test.YtdiijmjdnnolgaaTlbOpen
namespace Go.Proofs.Ytdiijmjdnnolgaa
open Go.RowKit
set_option linter.unusedVariables false

/-- What came in lies in block b. -/
def Fat (w : World) (b : Nat) (T : Nat → Int) (s a q : Int) : Prop := isRow w b = true ∧ rowAt w b = cellsF T s a q ∧ b < w.heap.size

theorem Fat.cells {w : World} {b : Nat} {T : Nat → Int} {s a q : Int} (h : Fat w b T s a q) :
    (loadCellsFrom ⟨b, 0, none⟩ 0 N16 #[]).run Try.prog w = .ok (cellsT T) w ∧ w.cell? ⟨b, 16, none⟩ = some (.int .i64 s) ∧ w.cell? ⟨b, 17, none⟩ = some (.int .u32 a) ∧ w.cell? ⟨b, 18, none⟩ = some (.int .u32 q) := by
  have sT : (cellsT T).size = 16 := size_cellsT T
  have hc : ∀ j, w.cell? ⟨b, j, none⟩ = (cellsF T s a q)[j]? := fun j => by rw [cell_rowAt w b j h.1, h.2.1]
  refine ⟨?_, ?_, ?_, ?_⟩
  · have := run_loadCells_list (P := Try.prog) w ⟨b, 0, none⟩ (cellsT T).toList (fun j v hv => by
      rw [Addr.add_lit, hc]
      have hj : j < 16 := by
        have := (List.getElem?_eq_some_iff.1 hv).1
        simpa [sT] using this
      unfold cellsF
      rw [Nat.zero_add, Array.getElem?_append, sT, if_pos hj]
      simpa using hv)
    rw [Array.length_toList, sT] at this
    simpa [loadCells, N16] using this
  · rw [hc]; unfold cellsF; rw [Array.getElem?_append, sT]; rfl
  · rw [hc]; unfold cellsF; rw [Array.getElem?_append, sT]; rfl
  · rw [hc]; unfold cellsF; rw [Array.getElem?_append, sT]; rfl

theorem Fat.new (w : World) (T : Nat → Int) (s a q : Int) (t : TypeId) : Fat (w.alloc (.cells (cellsF T s a q) t)) w.heap.size T s a q := ⟨isRow_new _ _ _, rowAt_new _ _ _, by simp⟩

theorem Fat.on {w y : World} {b : Nat} {T : Nat → Int} {s a q : Int} (h : Fat w b T s a q) (hb : Below w.heap.size w y) : Fat y b T s a q :=
  ⟨by rw [(brow hb).2 _ h.2.2]; exact h.1, by rw [(brow hb).1 _ h.2.2]; exact h.2.1, Nat.lt_of_lt_of_le h.2.2 hb.size⟩

/-- What the first statement reads. -/
theorem first_on {n L : Nat} {w x y : World} {T : Nat → Int} {s a q : Int} (h : Fat x L T s a q ∧ Below n w x) (hn : n ≤ w.heap.size) (hb : Below x.heap.size x y) :
    (loadCellsFrom ⟨L, 0, none⟩ 0 N16 #[]).run Try.prog y = .ok (cellsT T) y ∧ y.cell? ⟨L, 16, none⟩ = some (.int .i64 s) ∧ y.cell? ⟨L, 17, none⟩ = some (.int .u32 a) ∧ y.cell? ⟨L, 18, none⟩ = some (.int .u32 q) ∧ (Fat y L T s a q ∧ Below n w y) :=
  ⟨(h.1.on hb).cells.1, (h.1.on hb).cells.2.1, (h.1.on hb).cells.2.2.1, (h.1.on hb).cells.2.2.2, h.1.on hb, onto h.2 hn hb⟩

set_option maxRecDepth 100000 in
set_option maxHeartbeats 4000000 in
theorem first_walk (w : World) (T : Nat → Int) (s a q : Int) (hT : Wd T) (ha : 0 ≤ a ∧ a < 4294967296) (hq : 0 ≤ q ∧ q < 4294967296) :
    Calls Try.prog 6 #[.agg (cellsF T s a q)] w fun e w' => e = .returned (.bool true) ∧ Below w.heap.size w w' := by
  obtain ⟨t1, t2, t3, t4, t5, t6, t7, t8, t9⟩ := tlbRules
  have R := Fat.new w T s a q 39
  obtain ⟨f1, f2, f3, f4⟩ := R.cells
  have B := hide (grow w (.cells (cellsF T s a q) 39))
  go_enter Try.func6, Try.ntmps6
  go_wp2_with fail
  generalize w.alloc (.cells (cellsF T s a q) 39) = v1 at *
  have hS := first_on ⟨R, B.out⟩ (Nat.le_refl _) (Below.refl _ v1).drew
  have n16 : ¬ N16 = 0 := by decide
  have d1 := rowAt_drew
  have d2 := isRow_drew
  have d3 := fun (w : World) (g : Nat) (c : Array Value) => (rfl : w.drew.setRow g c = (w.setRow g c).drew)
  have hRB := hide (And.intro R B.out)
  clear R f1 f2 f3 f4 B
  go_region_held3 (fun x => (loadCellsFrom ⟨w.heap.size, 0, none⟩ 0 N16 #[]).run Try.prog x = .ok (cellsT T) x ∧ x.cell? ⟨w.heap.size, 16, none⟩ = some (.int .i64 s) ∧ x.cell? ⟨w.heap.size, 17, none⟩ = some (.int .u32 a) ∧ x.cell? ⟨w.heap.size, 18, none⟩ = some (.int .u32 q) ∧ (Fat x w.heap.size T s a q ∧ Below w.heap.size w x))
    (first | exact hS | assumption | exact first_on (And.right (And.right (And.right (And.right (by assumption))))) (Nat.le_refl _) (grow _ _) | exact first_on (And.right (And.right (And.right (And.right (by assumption))))) (Nat.le_refl _) (grow _ _).drew | exact first_on hRB.out (Nat.le_refl _) (below_setRow (grow v1 _).drew (Nat.le_refl _) _))
    (fail)
  have A : Tat ((v1.alloc (.cells (cellsT T0) 26)).drew.setRow v1.heap.size (cellsT T)) v1.heap.size T :=
    ⟨by rw [isRow_setRow, isRow_drew, isRow_new], by rw [rowAt_setRow _ _ _ (by rw [isRow_drew, isRow_new])], by rw [setRow_size]; simp⟩
  have B := hide (onto hRB.out.2 (Nat.le_refl _) (below_setRow (grow v1 (.cells (cellsT T0) 26)).drew (Nat.le_refl _) (cellsT T)))
  clear hRB hS d1 d2 d3 n16
  have l1 := A.load
  generalize (v1.alloc (.cells (cellsT T0) 26)).drew.setRow v1.heap.size (cellsT T) = v2 at *
  generalize v1.heap.size = LT at *
  clear v1
  obtain ⟨n, hn⟩ : ∃ n : Nat, Hid (s % 8 = n) := ⟨(s % 8).toNat, hide (by omega)⟩
  have hn8 : n < 8 := by have := hn.out; omega
  have a1 : bits .and .i64 s 7 = (n : Int) := (and7 s).trans hn.out
  clear hn
  obtain ⟨HA, hHA⟩ : ∃ HA, Hid (HA = a / 256 * 256) := ⟨_, hide rfl⟩
  obtain ⟨LQ, hLQ⟩ : ∃ LQ, Hid (LQ = q % 256) := ⟨_, hide rfl⟩
  have a2 : bits .and .u32 a 4294967040 = HA := by rw [hHA.out]; exact andHigh a ha.1 ha.2
  have a3 : bits .and .u32 q 255 = LQ := by rw [hLQ.out]; exact and255 q hq.1 hq.2
  have b1 : 0 ≤ HA + LQ := by rw [hHA.out, hLQ.out]; omega
  have b2 : HA + LQ < 4294967296 := by rw [hHA.out, hLQ.out]; omega
  have cw := hide fun w => write_in T n hn8 (HA + LQ) 6 (by omega) (by omega) w
  have hU : Wd (putT T n (HA + LQ) 6) := hT.put n ⟨b1, b2⟩ (by omega)
  have hfit : fit (putT T n (HA + LQ) 6) a q n := by
    unfold fit
    rw [(put_here T n (HA + LQ) 6).1, hHA.out, hLQ.out]
    omega
  rw [show loV 6 = 6 by decide] at cw
  generalize putT T n (HA + LQ) 6 = U at *
  obtain ⟨k, hk⟩ := find_ex U a q
  have cf := hide fun w => find_at hU ha.1 ha.2 hq.1 hq.2 hk w
  have cr := hide fun k hk w => read_in U k hk w
  obtain ⟨m, hm, rfl, hno⟩ : ∃ m : Nat, m ≤ n ∧ k = m ∧ ∀ j, j < m → ¬ fit U a q j := by
    rcases hk with ⟨e, c⟩ | ⟨i, hi, e, f, c⟩
    · exact absurd hfit (c n hn8)
    · exact ⟨i, Nat.le_of_not_lt fun g => c n g hfit, e, c⟩
  replace hno := hide hno
  replace hU := hide hU
  clear hk hfit hT
  go_wp2_with fail
  refine (cw.out _).mono ?_
  rintro e w3 ⟨rfl, g3⟩
  have A2 := Tat.new w3 U 26
  replace B := hide (onto (onto B.out (Nat.le_refl _) g3) (Nat.le_refl _) (grow w3 (.cells (cellsT U) 26)))
  replace l1 := A2.load
  clear A g3 cw
  go_wp2_with fail
  generalize w3.alloc (.cells (cellsT U) 26) = v3 at *
  generalize w3.heap.size = LU at *
  refine (cf.out _).mono ?_
  rintro e w4 ⟨rfl, g4⟩
  replace A2 := A2.on g4
  replace B := hide (onto B.out (Nat.le_refl _) g4)
  clear g4 cf l1
  clear v3
  have d1 : decide ((m : Int) < 0) = false := by simp
  have d2 : decide (n < m) = false := by simp; omega
  go_wp2_with fail
  go_loopw [11] (fun i wr => ∃ j : Nat, j ≤ m ∧ i = .int .i64 j ∧ Hid (Tat wr LU U ∧ Below w.heap.size w wr)) (fun i _ => m - (intOf i).toNat)
  case atStart => exact ⟨0, by omega, rfl, hide ⟨A2, B.out⟩⟩
  case round =>
    clear A2 B
    obtain ⟨j, hj, rfl, hI⟩ := hrel
    by_cases hlt : j < m
    · have e1 : (j : Int) < (m : Int) := by omega
      have l1 := hI.out.1.load
      go_wp2_with fail
      refine (cr.out j (by omega) _).mono ?_
      rintro e w5 ⟨rfl, g5⟩
      have hI2 := hide (And.intro ((hI.out.1.on g5).on (grow w5 (.cells #[.int .u32 (U (j * 2)), .int .u32 (U (j * 2 + 1))] 24))) (onto (onto hI.out.2 (Nat.le_refl _) g5) (Nat.le_refl _) (grow w5 (.cells #[.int .u32 (U (j * 2)), .int .u32 (U (j * 2 + 1))] 24))))
      have hX := hU.out (j * 2)
      have hY := hU.out (j * 2 + 1)
      have hF := hno.out j hlt
      unfold fit at hF
      clear g5 hI l1
      generalize U (j * 2) = X at *
      generalize U (j * 2 + 1) = Y at *
      obtain ⟨HX, hHX⟩ : ∃ HX, Hid (HX = X / 256 * 256) := ⟨_, hide rfl⟩
      obtain ⟨LX, hLX⟩ : ∃ LX, Hid (LX = X % 256) := ⟨_, hide rfl⟩
      obtain ⟨OY, hOY⟩ : ∃ OY, Hid (OY = Y % 2) := ⟨_, hide rfl⟩
      have p1 : bits .and .u32 X 4294967040 = HX := by rw [hHX.out]; exact andHigh X hX.1 hX.2
      have p2 : bits .and .u32 X 255 = LX := by rw [hLX.out]; exact and255 X hX.1 hX.2
      have p3 : bits .and .u32 Y 1 = OY := by rw [hOY.out]; exact and1 Y hY.1 hY.2
      by_cases q1 : HX = HA
      · have m1 : (HX == HA) = true := by simp [q1]
        have m2 : (OY == 1) = false := by simp; intro c; rw [hOY.out] at c; rw [hHX.out, hHA.out] at q1; omega
        have m3 : (LX == LQ) = false := by simp; intro c; rw [hLX.out, hLQ.out] at c; rw [hHX.out, hHA.out] at q1; omega
        clear q1 hF hX hY hHX hLX hOY
        go_wp2
        go_roundw
        case rel => exact ⟨j + 1, by omega, by go_num, hI2⟩
        case measure => simp [intOf]; omega
      · have m1 : (HX == HA) = false := by simp [q1]
        clear q1 hF hX hY hHX hLX hOY
        go_wp2
        go_roundw
        case rel => exact ⟨j + 1, by omega, by go_num, hI2⟩
        case measure => simp [intOf]; omega
    · have hx : j = m := by omega
      subst hx
      have B := hide hI.out.2
      clear hI
      go_wp2_with fail
      refine (fixed_any _).mono ?_
      rintro e w6 ⟨rfl, g6⟩
      replace B := hide (onto B.out (Nat.le_refl _) g6)
      clear g6
      go_wp2
      go_ret
      exact ⟨rfl, B.out⟩

end Go.Proofs.Ytdiijmjdnnolgaa
