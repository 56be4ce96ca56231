/- Layer 9: contract of the program's Parse. -/
import Derived.Test.YtdapjpbdplhgbaaTmParse
namespace Go.Proofs.Ytdapjpbdplhgbaa.Tm
open Go.RowKit
set_option linter.unusedVariables false
set_option maxRecDepth 100000

/-- Parse's blocks: the bytes, the answer, the place, the timer on the way. -/
structure Way (w : World) (s : ByteArray) (k : Nat) (t : Tm) (x : World) : Prop where
  box : x.cell? ⟨w.heap.size, 0, none⟩ = some (.string s)
  at_ : x.cell? ⟨w.heap.size + 1 + 1, 0, none⟩ = some (.int .i64 k)
  free : x.frozen? ⟨w.heap.size + 1 + 1, 0, none⟩ = false
  out : Rat x (w.heap.size + 1) T0
  tm : Rat x (w.heap.size + 1 + 1 + 1) t
  below : Below w.heap.size w x

theorem Way.took {w x : World} {s : ByteArray} {k : Nat} {t : Tm} (h : Way w s k t x) : Took x w.heap.size (w.heap.size + 1 + 1) s k x :=
  ⟨h.box, h.at_, h.free, by omega, fun _ _ => rfl, rfl, fun _ _ hB _ => hB⟩

theorem Way.on {w x y : World} {s : ByteArray} {k k' : Nat} {t : Tm} (h : Way w s k t x) (hT : Took x w.heap.size (w.heap.size + 1 + 1) s k' y) : Way w s k' t y :=
  ⟨hT.box, hT.at_, hT.free, h.out.of_heap (hT.other _ (by omega)), h.tm.of_heap (hT.other _ (by omega)), hT.below _ _ h.below (by omega)⟩

theorem Rat.put {w : World} {b : Nat} {r q : Tm} (h : Rat w b r) (j : Nat) (v : Value) (hq : (cellsT r).setIfInBounds j v = cellsT q) : Rat (w.setCell ⟨b, j, none⟩ v) b q :=
  ⟨by rw [isRow_setCell]; exact h.1, by rw [rowAt_setCell, h.2.1, hq], by rw [World.size_setCell]; exact h.2.2⟩

theorem Way.put {w x : World} {s : ByteArray} {k : Nat} {t q : Tm} (h : Way w s k t x) (j : Nat) (v : Value) (hq : (cellsT t).setIfInBounds j v = cellsT q) : Way w s k q (x.setCell ⟨w.heap.size + 1 + 1 + 1, j, none⟩ v) := by
  have ho : ∀ g, g ≠ w.heap.size + 1 + 1 + 1 → (x.setCell ⟨w.heap.size + 1 + 1 + 1, j, none⟩ v).heap[g]? = x.heap[g]? := fun g hg => Below.heap_setCell _ _ _ g (by show g ≠ w.heap.size + 1 + 1 + 1; exact hg)
  refine ⟨?_, ?_, by rw [World.frozen?_setCell]; exact h.free, h.out.of_heap (ho _ (by omega)), h.tm.put j v hq, h.below.setCell (by show w.heap.size ≤ w.heap.size + 1 + 1 + 1; omega) _⟩
  · rw [World.cell?_setCell_other x _ _ _ (by intro c; injection c with c1; omega)]
    exact h.box
  · rw [World.cell?_setCell_other x _ _ _ (by intro c; injection c with c1; omega)]
    exact h.at_

theorem Way.start (w : World) (s : ByteArray) : Way w s 0 T0 ((((w.alloc (.cells #[.string s] 9)).alloc (.cells (cellsT T0) 62)).alloc (.cells #[.int .i64 0] 3)).alloc (.cells (cellsT T0) 62)) := by
  have e1 : (w.alloc (.cells #[.string s] 9)).heap.size = w.heap.size + 1 := by simp
  have e2 : ((w.alloc (.cells #[.string s] 9)).alloc (.cells (cellsT T0) 62)).heap.size = w.heap.size + 1 + 1 := by simp
  have e3 : (((w.alloc (.cells #[.string s] 9)).alloc (.cells (cellsT T0) 62)).alloc (.cells #[.int .i64 0] 3)).heap.size = w.heap.size + 1 + 1 + 1 := by simp
  have r1 := Rat.new (w.alloc (.cells #[.string s] 9)) T0 62
  have r3 := Rat.new (((w.alloc (.cells #[.string s] 9)).alloc (.cells (cellsT T0) 62)).alloc (.cells #[.int .i64 0] 3)) T0 62
  rw [e1] at r1
  rw [e3] at r3
  refine ⟨?_, ?_, ?_, (r1.on (grow _ _)).on (grow _ _), r3, (((grow w _).alloc (by simp) _).alloc (by simp; omega) _).alloc (by simp; omega) _⟩
  · rw [World.cell?_alloc_past _ _ _ (by rw [e3]; omega), World.cell?_alloc_past _ _ _ (by rw [e2]; omega), World.cell?_alloc_past _ _ _ (by rw [e1]; omega), World.cell?_alloc_new]
    rfl
  · rw [World.cell?_alloc_past _ _ _ (by rw [e3]; omega), ← e2, World.cell?_alloc_new]
    rfl
  · rw [World.frozen?_alloc_past _ _ _ (by rw [e3]; omega), ← e2, World.frozen?_alloc_new]

theorem parse_yes {s : ByteArray} (hs : s.size = 9) (h8 : byteN s 8 ≤ 1) (w : World) :
    Calls Try.prog 53 #[.string s] w fun e w' => e = .returned (.tuple #[.agg (cellsT ⟨valN s 0 4, valN s 4 4, (valN s 8 1 : Int) == 1⟩), .int .i64 0]) ∧ Below w.heap.size w w' := by
  obtain ⟨t1, t2, t3, t4, t5, t6, t7, t8, t9⟩ := tmRules
  obtain ⟨p0, p1, p2⟩ := tmParts
  obtain ⟨s0, s1, s2⟩ := tmSets
  have hb : s[8].toNat ≤ 1 := by rw [← byteN_in s 8 (by omega)]; exact h8
  have c1 := hide fun (x y : World) (b a : Nat) (h : Took x b a s 0 y) => take_any h 4 (by omega) (by omega) (by omega)
  have c2 := hide fun (x y : World) (b a : Nat) (h : Took x b a s (0 + 4) y) => take_any h 4 (by omega) (by omega) (by omega)
  have c3 := hide fun (x y : World) (b a : Nat) (h : Took x b a s (0 + 4 + 4) y) => take_any h 1 (by omega) (by omega) (by omega)
  simp only [Nat.zero_add, Nat.reduceAdd] at c1 c2 c3
  generalize (valN s 0 4 : Int) = v1 at *
  generalize (valN s 4 4 : Int) = v2 at *
  generalize (valN s 8 1 : Int) = v3 at *
  clear h8
  go_enter Try.func53, Try.ntmps53
  go_wp2_with fail
  have h := Way.start w s
  generalize (((w.alloc (.cells #[.string s] 9)).alloc (.cells (cellsT T0) 62)).alloc (.cells #[.int .i64 0] 3)).alloc (.cells (cellsT T0) 62) = x0 at *
  refine (c1.out _ _ _ _ h.took).mono ?_
  rintro e w1 ⟨rfl, hT⟩
  replace h := h.on hT
  have q1 := h.tm.cell 0
  have q2 := frozen_rowAt w1 _ 0 h.tm.1
  rw [p0] at q1
  replace h := h.put 0 (.int .u32 v1) (s0 _ _)
  replace h := hide h
  clear hT hb
  go_wp2_with fail
  clear q1 q2
  generalize w1.setCell ⟨w.heap.size + 1 + 1 + 1, 0, none⟩ (.int .u32 v1) = x1 at *
  refine (c2.out _ _ _ _ h.out.took).mono ?_
  rintro e w2 ⟨rfl, hT⟩
  replace h := h.out.on hT
  have q1 := h.tm.cell 1
  have q2 := frozen_rowAt w2 _ 1 h.tm.1
  rw [p1] at q1
  replace h := h.put 1 (.int .u32 v2) (s1 _ _)
  replace h := hide h
  clear hT
  go_wp2_with fail
  clear q1 q2
  generalize w2.setCell ⟨w.heap.size + 1 + 1 + 1, 1, none⟩ (.int .u32 v2) = x2 at *
  refine (c3.out _ _ _ _ h.out.took).mono ?_
  rintro e w3 ⟨rfl, hT⟩
  replace h := h.out.on hT
  have q1 := h.tm.cell 2
  have q2 := frozen_rowAt w3 _ 2 h.tm.1
  rw [p2] at q1
  replace h := h.put 2 (.bool (v3 == 1)) (s2 _ _)
  have l1 := h.tm.load
  have l2 := h.out.1
  have l3 := h.out.2.1
  replace h := hide h.below
  clear hT
  go_wp2
  exact bodyPost_ret (v := .tuple #[.agg (cellsT ⟨v1, v2, v3 == 1⟩), .int .i64 0]) (by simp [results, Try.results53, go_sem, t1, t9, l2]) rfl ⟨rfl, below_setRow h.out (by omega) _⟩

theorem parse_no {s : ByteArray} (hl : s.size ≤ maxLen) (hs : ¬ (s.size = 9 ∧ byteN s 8 ≤ 1)) (w : World) :
    Calls Try.prog 53 #[.string s] w fun e w' => e = .returned (.tuple #[.agg (cellsT T0), .int .i64 90]) ∧ Below w.heap.size w w' := by
  obtain ⟨t1, t2, t3, t4, t5, t6, t7, t8, t9⟩ := tmRules
  unfold maxLen at hl
  have fin : ∀ c d : Array Value, Below w.heap.size w ((w.alloc (.cells c 9)).alloc (.cells d 62)) := fun c d => (grow _ _).alloc (by simp) _
  replace fin := hide fin
  by_cases h9 : s.size = 9
  · have hb : 1 < s[8].toNat := by
      rw [← byteN_in s 8 (by omega)]
      omega
    clear hs
    go_enter Try.func53, Try.ntmps53
    go_wp2
    exact bodyPost_ret (v := .tuple #[.agg (cellsT T0), .int .i64 90]) (by simp [results, Try.results53, go_sem, t1, t3, t5, t6, t7]) rfl ⟨rfl, fin.out _ _⟩
  · have hd : ((s.size : Int) != 9) = true := by simp; omega
    clear hs
    go_enter Try.func53, Try.ntmps53
    go_wp2
    exact bodyPost_ret (v := .tuple #[.agg (cellsT T0), .int .i64 90]) (by simp [results, Try.results53, go_sem, t1, t3, t5, t6, t7]) rfl ⟨rfl, fin.out _ _⟩

end Go.Proofs.Ytdapjpbdplhgbaa.Tm
