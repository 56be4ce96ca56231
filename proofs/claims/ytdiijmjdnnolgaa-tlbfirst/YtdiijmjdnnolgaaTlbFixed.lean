/- Layer 7: the calls whose answers the document fixes are answered so. -/
import Derived.Test.YtdiijmjdnnolgaaTlbMap
namespace Go.Proofs.Ytdiijmjdnnolgaa
open Go.RowKit
set_option linter.unusedVariables false

section
variable {T : Nat → Int} {a s k : Int} (hT : Wd T) (a0 : 0 ≤ a) (a1 : a < 4294967296) (s0 : 0 ≤ s) (s1 : s < 4294967296) (h : FindIs T a s k)
include hT a0 a1 s0 s1 h

theorem find_at (w : World) : Calls Try.prog 13 #[.agg (cellsT T), .int .u32 a, .int .u32 s] w fun e w' => e = .returned (.int .i64 k) ∧ Below w.heap.size w w' :=
  (find_any T a s hT a0 a1 s0 s1 w).mono fun e w' ⟨k', h', he, hb⟩ => ⟨by rw [he, h'.one h], hb⟩

theorem rfind_at (w : World) : Calls Try.prog 14 #[.agg (cellsT T), .int .u32 a, .int .u32 s] w fun e w' => e = .returned (.int .i64 k) ∧ Below w.heap.size w w' :=
  (rfind_any T a s hT a0 a1 s0 s1 w).mono fun e w' ⟨k', h', he, hb⟩ => ⟨by rw [he, h'.one h], hb⟩

theorem map_at (wr : Bool) (w : World) : Calls Try.prog 11 #[.agg (cellsT T), .int .u32 a, .int .u32 s, .bool wr] w fun e w' => e = .returned (.tuple #[.int .u32 (mapV T a wr k).1, .int .i64 (mapV T a wr k).2]) ∧ Below w.heap.size w w' :=
  (map_any T a s wr hT a0 a1 s0 s1 w).mono fun e w' ⟨k', h', he, hb⟩ => ⟨by rw [he, h'.one h], hb⟩

theorem rmap_at (wr : Bool) (w : World) : Calls Try.prog 12 #[.agg (cellsT T), .int .u32 a, .int .u32 s, .bool wr] w fun e w' => e = .returned (.tuple #[.int .u32 (mapV T a wr k).1, .int .i64 (mapV T a wr k).2]) ∧ Below w.heap.size w w' :=
  (rmap_any T a s wr hT a0 a1 s0 s1 w).mono fun e w' ⟨k', h', he, hb⟩ => ⟨by rw [he, h'.one h], hb⟩
end

theorem find_ex (T : Nat → Int) (a s : Int) : ∃ k, FindIs T a s k := by
  by_cases h : ∃ i, i < 8 ∧ fit T a s i
  · obtain ⟨i, hi, hf⟩ := h
    have : ∀ n i, i < n → fit T a s i → ∃ j, j ≤ i ∧ fit T a s j ∧ ∀ m, m < j → ¬ fit T a s m := by
      intro n
      induction n with
      | zero => intro i h; omega
      | succ n ih =>
        intro i hi hf
        by_cases c : ∃ m, m < i ∧ fit T a s m
        · obtain ⟨m, hm, hfm⟩ := c
          obtain ⟨j, hj, r⟩ := ih m (by omega) hfm
          exact ⟨j, by omega, r⟩
        · exact ⟨i, Nat.le_refl _, hf, fun m hm hfm => c ⟨m, hm, hfm⟩⟩
    obtain ⟨j, hj, hfj, hn⟩ := this (i + 1) i (by omega) hf
    exact ⟨j, Or.inr ⟨j, by omega, rfl, hfj, hn⟩⟩
  · exact ⟨-1, Or.inl ⟨rfl, fun i hi hf => h ⟨i, hi, hf⟩⟩⟩

theorem Wd.put {T : Nat → Int} (h : Wd T) (s : Nat) {x y : Int} (hx : 0 ≤ x ∧ x < 4294967296) (hy : 0 ≤ y ∧ y < 4294967296) : Wd (putT T s x y) := fun k => by
  unfold putT
  split
  · exact hx
  · split
    · exact hy
    · exact h k

theorem Wd.zero : Wd T0 := fun _ => by unfold T0; omega

/-- The buffer of the document's example. -/
def A7 : Nat → Int := putT T0 0 1280 4614

theorem A7_wd : Wd A7 := Wd.zero.put 0 (by omega) (by omega)

/-- A buffer in block b. -/
def Tat (w : World) (b : Nat) (T : Nat → Int) : Prop := isRow w b = true ∧ rowAt w b = cellsT T ∧ b < w.heap.size

theorem Tat.on {w y : World} {b : Nat} {T : Nat → Int} (h : Tat w b T) (hb : Below w.heap.size w y) : Tat y b T :=
  ⟨by rw [(brow hb).2 _ h.2.2]; exact h.1, by rw [(brow hb).1 _ h.2.2]; exact h.2.1, Nat.lt_of_lt_of_le h.2.2 hb.size⟩

theorem Tat.alloc {w : World} {b : Nat} {T : Nat → Int} (h : Tat w b T) (c : Array Value) (t : TypeId) : Tat (w.alloc (.cells c t)) b T :=
  h.on ((Below.refl _ w).alloc (Nat.le_refl _) _)

theorem Tat.new (w : World) (T : Nat → Int) (t : TypeId) : Tat (w.alloc (.cells (cellsT T) t)) w.heap.size T := ⟨isRow_new _ _ _, rowAt_new _ _ _, by simp⟩

theorem Tat.load {w : World} {b : Nat} {T : Nat → Int} (h : Tat w b T) : (loadCellsFrom ⟨b, 0, none⟩ 0 N16 #[]).run Try.prog w = .ok (cellsT T) w := by
  have := loadTlb w b h.1 (by rw [h.2.1, size_cellsT])
  rwa [h.2.1] at this

theorem Tat.cell {w : World} {b : Nat} {T : Nat → Int} (h : Tat w b T) (j : Nat) (hj : j < 16) : w.cell? ⟨b, j, none⟩ = some (.int .u32 (T j)) := by
  rw [cell_rowAt w b j h.1, h.2.1, get_cellsT T j hj]

/-- An entry in block b. -/
def Eat (w : World) (b : Nat) (h l : Int) : Prop := w.cell? ⟨b, 0, none⟩ = some (.int .u32 h) ∧ w.cell? ⟨b, 1, none⟩ = some (.int .u32 l) ∧ b < w.heap.size

theorem Eat.on {w y : World} {b : Nat} {h l : Int} (e : Eat w b h l) (hb : Below w.heap.size w y) : Eat y b h l :=
  ⟨by rw [(bcell hb).1 _ _ e.2.2]; exact e.1, by rw [(bcell hb).1 _ _ e.2.2]; exact e.2.1, Nat.lt_of_lt_of_le e.2.2 hb.size⟩

theorem Eat.new (w : World) (h l : Int) (t : TypeId) : Eat (w.alloc (.cells #[.int .u32 h, .int .u32 l] t)) w.heap.size h l := ⟨by simp, by simp, by simp⟩

theorem grow (w : World) (o : Obj) : Below w.heap.size w (w.alloc o) := (Below.refl _ w).alloc (Nat.le_refl _) o

theorem onto {n : Nat} {w x y : World} (h : Below n w x) (hn : n ≤ w.heap.size) (k : Below x.heap.size x y) : Below n w y := h.trans (k.mono (Nat.le_trans hn h.size))

theorem fixed_calls : (∀ w, Calls Try.prog 7 #[.agg (cellsT T0), .int .i64 0, .agg #[.int .u32 1280, .int .u32 4614]] w fun e w' => e = .returned (.tuple #[.agg (cellsT A7), .int .i64 0]) ∧ Below w.heap.size w w') ∧
    (∀ w, Calls Try.prog 11 #[.agg (cellsT A7), .int .u32 1332, .int .u32 0, .bool false] w fun e w' => e = .returned (.tuple #[.int .u32 4660, .int .i64 0]) ∧ Below w.heap.size w w') ∧
    (∀ w, Calls Try.prog 11 #[.agg (cellsT A7), .int .u32 1332, .int .u32 1, .bool false] w fun e w' => e = .returned (.tuple #[.int .u32 0, .int .i64 1]) ∧ Below w.heap.size w w') ∧
    (∀ w, Calls Try.prog 9 #[.agg (cellsT A7), .int .i64 0] w fun e w' => e = .returned (.tuple #[.agg #[.int .u32 1280, .int .u32 4614], .int .i64 0]) ∧ Below w.heap.size w w') ∧
    (∀ w, Calls Try.prog 9 #[.agg (cellsT A7), .int .i64 8] w fun e w' => e = .returned (.tuple #[.agg #[.int .u32 0, .int .u32 0], .int .i64 70]) ∧ Below w.heap.size w w') ∧
    (∀ w, Calls Try.prog 7 #[.agg (cellsT A7), .int .i64 (-1), .agg #[.int .u32 1280, .int .u32 4614]] w fun e w' => e = .returned (.tuple #[.agg (cellsT T0), .int .i64 70]) ∧ Below w.heap.size w w') ∧
    (∀ w, Calls Try.prog 7 #[.agg (cellsT A7), .int .i64 1, .agg #[.int .u32 0, .int .u32 255]] w fun e w' => e = .returned (.tuple #[.agg (cellsT (putT A7 1 0 7)), .int .i64 0]) ∧ Below w.heap.size w w') ∧
    (∀ w, Calls Try.prog 13 #[.agg (cellsT A7), .int .u32 1535, .int .u32 0] w fun e w' => e = .returned (.int .i64 0) ∧ Below w.heap.size w w') ∧
    (∀ w, Calls Try.prog 13 #[.agg (cellsT A7), .int .u32 1536, .int .u32 0] w fun e w' => e = .returned (.int .i64 (-1)) ∧ Below w.heap.size w w') := by
  have f1 : FindIs A7 1332 0 ((0 : Nat) : Int) := Or.inr ⟨0, by omega, rfl, by decide, fun j hj => by omega⟩
  have f2 : FindIs A7 1332 1 (-1) := Or.inl ⟨rfl, by decide⟩
  have f3 : FindIs A7 1535 0 ((0 : Nat) : Int) := Or.inr ⟨0, by omega, rfl, by decide, fun j hj => by omega⟩
  have f4 : FindIs A7 1536 0 (-1) := Or.inl ⟨rfl, by decide⟩
  refine ⟨fun w => write_in T0 0 (by omega) 1280 4614 (by omega) (by omega) w, fun w => ?_, fun w => ?_, fun w => read_in A7 0 (by omega) w, fun w => read_out A7 8 (by omega) w, fun w => write_out A7 (-1) (by omega) 1280 4614 w, fun w => write_in A7 1 (by omega) 0 255 (by omega) (by omega) w, fun w => ?_, fun w => ?_⟩
  · have := map_at A7_wd (by omega) (by omega) (by omega) (by omega) f1 false w
    rwa [show mapV A7 1332 false ((0 : Nat) : Int) = (4660, 0) by decide] at this
  · have := map_at A7_wd (by omega) (by omega) (by omega) (by omega) f2 false w
    rwa [show mapV A7 1332 false (-1) = (0, 1) by decide] at this
  · exact find_at A7_wd (by omega) (by omega) (by omega) (by omega) f3 w
  · exact find_at A7_wd (by omega) (by omega) (by omega) (by omega) f4 w

set_option maxHeartbeats 2000000 in
theorem fixed_any (w : World) : Calls Try.prog 10 #[] w fun e w' => e = .returned (.bool true) ∧ Below w.heap.size w w' := by
  obtain ⟨t1, t2, t3, t4, t5, t6, t7, t8, t9⟩ := tlbRules
  obtain ⟨c1, c2, c3, c4, c5, c6, c7, c8, c9⟩ := fixed_calls
  replace c1 := hide c1
  replace c2 := hide c2
  replace c3 := hide c3
  replace c4 := hide c4
  replace c5 := hide c5
  replace c6 := hide c6
  replace c7 := hide c7
  replace c8 := hide c8
  replace c9 := hide c9
  go_enter Try.func10, Try.ntmps10
  go_wp2_with fail
  refine (c1.out _).mono ?_
  rintro e w1 ⟨rfl, b1⟩
  have B := hide (onto b1 (Nat.le_refl _) (grow w1 (.cells (cellsT A7) 26)))
  have R := Tat.new w1 A7 26
  have l1 := R.load
  clear b1
  go_wp2_with fail
  generalize w1.alloc (.cells (cellsT A7) 26) = v1 at *
  generalize w1.heap.size = L at *
  refine (c2.out _).mono ?_
  rintro e w2 ⟨rfl, b2⟩
  replace R := R.on b2
  replace B := hide (onto B.out (Nat.le_refl _) b2)
  replace l1 := R.load
  clear b2 v1
  go_wp2_with fail
  refine (c3.out _).mono ?_
  rintro e w3 ⟨rfl, b3⟩
  replace R := R.on b3
  replace B := hide (onto B.out (Nat.le_refl _) b3)
  replace l1 := R.load
  clear b3 w2
  go_wp2_with fail
  refine (c4.out _).mono ?_
  rintro e w4 ⟨rfl, b4⟩
  have g4 := grow w4 (.cells #[.int .u32 1280, .int .u32 4614] 24)
  replace R := (R.on b4).on g4
  replace B := hide (onto (onto B.out (Nat.le_refl _) b4) (Nat.le_refl _) g4)
  replace l1 := R.load
  have E := Eat.new w4 1280 4614 24
  clear b4 w3 g4
  go_wp2_with fail
  generalize w4.alloc (.cells #[.int .u32 1280, .int .u32 4614] 24) = v4 at *
  generalize w4.heap.size = M at *
  refine (c5.out _).mono ?_
  rintro e w5 ⟨rfl, b5⟩
  have g5 := grow w5 (.cells #[.int .u32 0, .int .u32 0] 24)
  replace R := (R.on b5).on g5
  replace B := hide (onto (onto B.out (Nat.le_refl _) b5) (Nat.le_refl _) g5)
  replace l1 := R.load
  replace E := (E.on b5).on g5
  have e1 := E.1
  have e2 := E.2.1
  clear b5 g5 v4
  clear w4
  go_wp2_with fail
  generalize w5.alloc (.cells #[.int .u32 0, .int .u32 0] 24) = v5 at *
  refine (c6.out _).mono ?_
  rintro e w6 ⟨rfl, b6⟩
  have g6 := grow w6 (.cells (cellsT T0) 26)
  replace R := (R.on b6).on g6
  replace B := hide (onto (onto B.out (Nat.le_refl _) b6) (Nat.le_refl _) g6)
  replace l1 := R.load
  replace E := (E.on b6).on g6
  clear b6 g6 e1 e2
  clear v5
  go_wp2_with fail
  generalize w6.alloc (.cells (cellsT T0) 26) = v6 at *
  refine (c7.out _).mono ?_
  rintro e w7 ⟨rfl, b7⟩
  have g7 := grow w7 (.cells (cellsT (putT A7 1 0 7)) 26)
  replace R := (R.on b7).on g7
  replace B := hide (onto (onto B.out (Nat.le_refl _) b7) (Nat.le_refl _) g7)
  replace l1 := R.load
  replace E := (E.on b7).on g7
  have e1 := E.1
  have e2 := E.2.1
  have e3 : (w7.alloc (.cells (cellsT (putT A7 1 0 7)) 26)).cell? ⟨w7.heap.size, 3, none⟩ = some (.int .u32 7) := (Tat.new w7 (putT A7 1 0 7) 26).cell 3 (by omega)
  have q1 := fun w => eqlEntry 1280 4614 1280 4614 w
  clear b7 g7
  clear v6
  go_wp2_with fail
  generalize w7.alloc (.cells (cellsT (putT A7 1 0 7)) 26) = v7 at *
  refine (c8.out _).mono ?_
  rintro e w8 ⟨rfl, b8⟩
  replace R := R.on b8
  replace B := hide (onto B.out (Nat.le_refl _) b8)
  replace l1 := R.load
  clear b8 E e1 e2 e3 q1
  clear v7
  go_wp2_with fail
  refine (c9.out _).mono ?_
  rintro e w9 ⟨rfl, b9⟩
  replace B := hide (onto B.out (Nat.le_refl _) b9)
  clear b9 R l1
  clear w8
  go_wp2
  go_ret
  exact ⟨rfl, B.out⟩

end Go.Proofs.Ytdiijmjdnnolgaa
