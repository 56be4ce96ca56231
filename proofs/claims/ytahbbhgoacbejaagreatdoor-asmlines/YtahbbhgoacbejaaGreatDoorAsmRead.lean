/- The only instruction whose text a text might be, as the program reads it. -/
import Derived.Test.YtahbbhgoacbejaaGreatDoorAsmText
set_option linter.unusedVariables false
set_option linter.unusedSimpArgs false
namespace Go.Proofs.YtahbbhgoacbejaaGreatDoor
open Go.RowKit Go.Shelf Go.Joins
attribute [local go_sem] Oper.semAt_some

theorem heap_set {W : World} {b j : Nat} {cs : Array Value} {T : TypeId} (h : W.heap[b]? = some (.cells cs T (0, 0))) (v : Value) : (W.setCell ⟨b, j, none⟩ v).heap[b]? = some (.cells (cs.setIfInBounds j v) T (0, 0)) := by
  simp [World.setCell, Array.getElem?_modify, h]
theorem heap_set_other {W : World} {b b' j : Nat} {o : Obj} (h : W.heap[b]? = some o) (v : Value) (hne : b ≠ b') : (W.setCell ⟨b', j, none⟩ v).heap[b]? = some o :=
  (Below.heap_setCell _ _ _ _ (fun e => hne e)).trans h

theorem four_new (w : World) (o1 o2 o3 o4 : Obj) : ((((w.alloc o1).alloc o2).alloc o3).alloc o4).heap[w.heap.size]? = some o1 ∧ ((((w.alloc o1).alloc o2).alloc o3).alloc o4).heap[w.heap.size + 1]? = some o2 ∧
    ((((w.alloc o1).alloc o2).alloc o3).alloc o4).heap[w.heap.size + 1 + 1]? = some o3 ∧ ((((w.alloc o1).alloc o2).alloc o3).alloc o4).heap[w.heap.size + 1 + 1 + 1]? = some o4 := by
  have e1 := World.alloc_heap_new w o1
  have e2 := World.alloc_heap_new (w.alloc o1) o2
  have e3 := World.alloc_heap_new ((w.alloc o1).alloc o2) o3
  have e4 := World.alloc_heap_new (((w.alloc o1).alloc o2).alloc o3) o4
  simp only [World.size_alloc] at e2 e3 e4
  refine ⟨?_, ?_, ?_, e4⟩
  · exact (Below.heap_alloc _ _ _ (by simp only [World.size_alloc]; omega)).trans ((Below.heap_alloc _ _ _ (by simp only [World.size_alloc]; omega)).trans ((Below.heap_alloc _ _ _ (by simp only [World.size_alloc]; omega)).trans e1))
  · exact (Below.heap_alloc _ _ _ (by simp only [World.size_alloc]; omega)).trans ((Below.heap_alloc _ _ _ (by simp only [World.size_alloc]; omega)).trans e2)
  · exact (Below.heap_alloc _ _ _ (by simp only [World.size_alloc]; omega)).trans e3

theorem six_of {W : World} {b : Nat} {c0 c1 c2 c3 c4 c5 : Value} {T : TypeId} (h : W.heap[b]? = some (.cells #[c0, c1, c2, c3, c4, c5] T (0, 0))) :
    (W.cell? ⟨b, 0, none⟩ = some c0 ∧ W.cell? ⟨b, 1, none⟩ = some c1 ∧ W.cell? ⟨b, 2, none⟩ = some c2 ∧ W.cell? ⟨b, 3, none⟩ = some c3 ∧ W.cell? ⟨b, 4, none⟩ = some c4 ∧ W.cell? ⟨b, 5, none⟩ = some c5) ∧ ∀ j, W.frozen? ⟨b, j, none⟩ = false :=
  ⟨⟨by simp [World.cell?, h], by simp [World.cell?, h], by simp [World.cell?, h], by simp [World.cell?, h], by simp [World.cell?, h], by simp [World.cell?, h]⟩, fun j => Lib.frozen_of_heap h j⟩
theorem one_of {W : World} {b : Nat} {c0 : Value} {T : TypeId} (h : W.heap[b]? = some (.cells #[c0] T (0, 0))) : W.cell? ⟨b, 0, none⟩ = some c0 ∧ W.frozen? ⟨b, 0, none⟩ = false :=
  ⟨by simp [World.cell?, h], Lib.frozen_of_heap h 0⟩

theorem put7 {W : World} {R : Nat} {T T' : TypeId} {x0 x1 x2 x3 x4 x5 y : Value} (h0 : W.heap[R]? = some (.cells #[x0, x1, x2, x3, x4, x5] T (0, 0))) (h1 : W.heap[R + 1]? = some (.cells #[y] T' (0, 0))) (v0 v1 v2 v3 v4 v5 u : Value) :
    ((((((((W.setCell ⟨R, 0, none⟩ v0).setCell ⟨R, 1, none⟩ v1).setCell ⟨R, 2, none⟩ v2).setCell ⟨R, 3, none⟩ v3).setCell ⟨R, 4, none⟩ v4).setCell ⟨R, 5, none⟩ v5).setCell ⟨R + 1, 0, none⟩ u).heap[R]? = some (.cells #[v0, v1, v2, v3, v4, v5] T (0, 0))) ∧
    ((((((((W.setCell ⟨R, 0, none⟩ v0).setCell ⟨R, 1, none⟩ v1).setCell ⟨R, 2, none⟩ v2).setCell ⟨R, 3, none⟩ v3).setCell ⟨R, 4, none⟩ v4).setCell ⟨R, 5, none⟩ v5).setCell ⟨R + 1, 0, none⟩ u).heap[R + 1]? = some (.cells #[u] T' (0, 0))) ∧
    KeepsOthers W (((((((W.setCell ⟨R, 0, none⟩ v0).setCell ⟨R, 1, none⟩ v1).setCell ⟨R, 2, none⟩ v2).setCell ⟨R, 3, none⟩ v3).setCell ⟨R, 4, none⟩ v4).setCell ⟨R, 5, none⟩ v5).setCell ⟨R + 1, 0, none⟩ u) ∧
    Below R W (((((((W.setCell ⟨R, 0, none⟩ v0).setCell ⟨R, 1, none⟩ v1).setCell ⟨R, 2, none⟩ v2).setCell ⟨R, 3, none⟩ v3).setCell ⟨R, 4, none⟩ v4).setCell ⟨R, 5, none⟩ v5).setCell ⟨R + 1, 0, none⟩ u) := by
  refine ⟨?_, ?_, ?_, ?_⟩
  · exact heap_set_other (heap_set (j := 5) (heap_set (j := 4) (heap_set (j := 3) (heap_set (j := 2) (heap_set (j := 1) (heap_set (j := 0) h0 v0) v1) v2) v3) v4) v5) u (by omega)
  · have h2 := heap_set_other (j := 0) h1 v0 (b' := R) (by omega)
    have h3 := heap_set_other (j := 1) h2 v1 (b' := R) (by omega)
    have h4 := heap_set_other (j := 2) h3 v2 (b' := R) (by omega)
    have h5 := heap_set_other (j := 3) h4 v3 (b' := R) (by omega)
    have h6 := heap_set_other (j := 4) h5 v4 (b' := R) (by omega)
    have h7 := heap_set_other (j := 5) h6 v5 (b' := R) (by omega)
    exact heap_set (j := 0) h7 u
  · exact (((((((KeepsOthers.setCell _ _ _).trans (KeepsOthers.setCell _ _ _)).trans (KeepsOthers.setCell _ _ _)).trans (KeepsOthers.setCell _ _ _)).trans (KeepsOthers.setCell _ _ _)).trans (KeepsOthers.setCell _ _ _)).trans (KeepsOthers.setCell _ _ _))
  · exact (((((((Below.refl R W).setCell (p := ⟨R, 0, none⟩) (Nat.le_refl _) _).setCell (p := ⟨R, 1, none⟩) (Nat.le_refl _) _).setCell (p := ⟨R, 2, none⟩) (Nat.le_refl _) _).setCell (p := ⟨R, 3, none⟩) (Nat.le_refl _) _).setCell (p := ⟨R, 4, none⟩) (Nat.le_refl _) _).setCell (p := ⟨R, 5, none⟩) (Nat.le_refl _) _).setCell (p := ⟨R + 1, 0, none⟩) (show R ≤ R + 1 by omega) _

theorem Asm.taken_rest {l r : List UInt8} {n : Int} (h : Asm.taken l = some (n, r)) : l.dropWhile (Asm.nums.contains ·) = r := by
  unfold Asm.taken at h
  split at h
  · cases h; rfl
  · cases h

/-- What lies in the blocks of a reading. -/
structure Asm.Reads (R0 Bo op : Nat) (rest : List UInt8) (s t d a i : Int) (ok : Bool) (W : World) : Prop where
  r0 : W.heap[R0]? = some (.cells #[.int .i64 0, .int .i64 0, .int .i64 0, .int .i64 0, .int .i64 0, .int .i64 0] 23 (0, 0))
  r1 : W.heap[R0 + 1]? = some (.cells #[.bool false] 4 (0, 0))
  o : W.heap[Bo]? = some (.cells #[.bool ok] 4 (0, 0))
  i : W.heap[Bo + 1]? = some (.cells #[.int .i64 (op : Int), .int .i64 s, .int .i64 t, .int .i64 d, .int .i64 a, .int .i64 i] 23 (0, 0))
  r : W.heap[Bo + 1 + 1]? = some (.cells #[.string ⟨rest.toArray⟩] 9 (0, 0))
  x : W.heap[Bo + 1 + 1 + 1]? = some (.cells #[.pointer (some ⟨Bo + 1, 0, none⟩)] 67 (0, 0))

theorem Asm.Reads.kept {R0 Bo op : Nat} {rest : List UInt8} {s t d a i : Int} {ok : Bool} {W W' : World} {row : Option Nat} (h : Asm.Reads R0 Bo op rest s t d a i ok W) (hg : W.grownBy W' row) (hr : ∀ r, row = some r → ∃ o : Obj, W.heap[r]? = some o ∧ o.isCells = false) : Asm.Reads R0 Bo op rest s t d a i ok W' :=
  ⟨block_kept h.r0 hg hr, block_kept h.r1 hg hr, block_kept h.o hg hr, block_kept h.i hg hr, block_kept h.r hg hr, block_kept h.x hg hr⟩

theorem Asm.Reads.setO {R0 Bo op : Nat} {rest : List UInt8} {s t d a i : Int} {ok : Bool} {W : World} (h : Asm.Reads R0 Bo op rest s t d a i ok W) (hl : R0 + 1 < Bo) (ok' : Bool) : Asm.Reads R0 Bo op rest s t d a i ok' (W.setCell ⟨Bo, 0, none⟩ (.bool ok')) :=
  ⟨heap_set_other h.r0 _ (by omega), heap_set_other h.r1 _ (by omega), heap_set h.o _, heap_set_other h.i _ (by omega), heap_set_other h.r _ (by omega), heap_set_other h.x _ (by omega)⟩

theorem Asm.Reads.setR {R0 Bo op : Nat} {rest : List UInt8} {s t d a i : Int} {ok : Bool} {W : World} (h : Asm.Reads R0 Bo op rest s t d a i ok W) (hl : R0 + 1 < Bo) (rest' : List UInt8) : Asm.Reads R0 Bo op rest' s t d a i ok (W.setCell ⟨Bo + 1 + 1, 0, none⟩ (.string ⟨rest'.toArray⟩)) :=
  ⟨heap_set_other h.r0 _ (by omega), heap_set_other h.r1 _ (by omega), heap_set_other h.o _ (by omega), heap_set_other h.i _ (by omega), heap_set h.r _, heap_set_other h.x _ (by omega)⟩

theorem Asm.Reads.setI {R0 Bo op : Nat} {rest : List UInt8} {s t d a i : Int} {ok : Bool} {W : World} (h : Asm.Reads R0 Bo op rest s t d a i ok W) (hl : R0 + 1 < Bo) (k : Nat) (hk : k < 5) (v : Int) :
    ∃ s' t' d' a' i', ([s, t, d, a, i] : List Int).set k v = [s', t', d', a', i'] ∧ Asm.Reads R0 Bo op rest s' t' d' a' i' ok (W.setCell ⟨Bo + 1, k + 1, none⟩ (.int .i64 v)) := by
  have hcases : k = 0 ∨ k = 1 ∨ k = 2 ∨ k = 3 ∨ k = 4 := by omega
  rcases hcases with rfl | rfl | rfl | rfl | rfl
  all_goals
    refine ⟨_, _, _, _, _, rfl, heap_set_other h.r0 _ (by omega), heap_set_other h.r1 _ (by omega), heap_set_other h.o _ (by omega), heap_set h.i _, heap_set_other h.r _ (by omega), heap_set_other h.x _ (by omega)⟩

set_option maxHeartbeats 4000000 in
set_option maxRecDepth 100000 in
theorem read_none (s : ByteArray) (hs : s.size ≤ 140737488355328) (hop : Asm.named (s.data.toList.takeWhile (· != 32)) = none) (w : World) (L : Lay5 w) :
    Calls Tryz.prog 19 #[.string s] w fun e w' => e = .returned (.tuple #[.agg #[.int .i64 0, .int .i64 0, .int .i64 0, .int .i64 0, .int .i64 0, .int .i64 0], .bool false]) ∧ Below w.heap.size w w' := by
  have hC := fun W => cut_any s 32 hs W
  have hN := fun W tb => named_any ⟨(s.data.toList.takeWhile (· != 32)).toArray⟩ W tb
  simp only [hop] at hN
  clear hop
  generalize s.data.toList.takeWhile (· != 32) = nm at *
  generalize s.data.toList.drop (nm.length + 1) = rs at *
  generalize s.data.toList.contains 32 = fd at *
  refine (callsIn_wide (n := 3)).1 ?_
  refine callsIn_of_wp_marks Tryz.func19 rfl trivial ?_ rfl
  simp only [Tryz.ntmps19, List.size_toArray, List.length_cons, List.length_nil, Nat.reduceAdd, Nat.reduceSub, Array.replicate_succ, Array.replicate_zero, List.push_toArray, List.append_toArray, List.nil_append, List.cons_append]
  gi_wp2_with fail
  have hb0 := ((Below.refl _ w).alloc (Nat.le_refl _) (.cells #[.int .i64 0, .int .i64 0, .int .i64 0, .int .i64 0, .int .i64 0, .int .i64 0] 23)).alloc (by simp) (.cells #[.bool false] 4)
  have hR0 : ((w.alloc (.cells #[.int .i64 0, .int .i64 0, .int .i64 0, .int .i64 0, .int .i64 0, .int .i64 0] 23)).alloc (.cells #[.bool false] 4)).heap[w.heap.size]? = some (.cells #[.int .i64 0, .int .i64 0, .int .i64 0, .int .i64 0, .int .i64 0, .int .i64 0] 23 (0, 0)) :=
    (Below.heap_alloc _ _ _ (by simp)).trans (World.alloc_heap_new w _)
  have hR1 : ((w.alloc (.cells #[.int .i64 0, .int .i64 0, .int .i64 0, .int .i64 0, .int .i64 0, .int .i64 0] 23)).alloc (.cells #[.bool false] 4)).heap[w.heap.size + 1]? = some (.cells #[.bool false] 4 (0, 0)) := by
    have := World.alloc_heap_new (w.alloc (.cells #[.int .i64 0, .int .i64 0, .int .i64 0, .int .i64 0, .int .i64 0, .int .i64 0] 23)) (.cells #[.bool false] 4)
    rwa [World.size_alloc] at this
  generalize ((w.alloc (.cells #[.int .i64 0, .int .i64 0, .int .i64 0, .int .i64 0, .int .i64 0, .int .i64 0] 23)).alloc (.cells #[.bool false] 4)) = w0 at *
  refine ⟨trivial, ?_⟩
  refine (callsIn_wide.2 (hC _)).mono ?_
  rintro e w1 ⟨rfl, hb1⟩
  replace hR0 := block_kept hR0 (grown_of hb1) (fun r e => by cases e)
  replace hR1 := block_kept hR1 (grown_of hb1) (fun r e => by cases e)
  replace hb0 := onto hb0 hb1
  clear hb1 hC w0
  gi_wp2_with fail
  refine ⟨trivial, ?_⟩
  refine (callsIn_wide.2 (hN _ (L.on hb0).tabs)).mono ?_
  rintro e w2 ⟨⟨op', ok, rfl, hop⟩, hb1⟩
  obtain ⟨rfl, rfl⟩ : op' = 0 ∧ ok = false := by
    rcases hop with ⟨k, hk, -⟩ | ⟨-, rfl, rfl⟩
    · cases hk
    · exact ⟨rfl, rfl⟩
  replace hR0 := block_kept hR0 (grown_of hb1) (fun r e => by cases e)
  replace hR1 := block_kept hR1 (grown_of hb1) (fun r e => by cases e)
  replace hb0 := onto hb0 hb1
  have hl2 := (Array.getElem?_eq_some_iff.1 hR1).1
  clear hb1 hN hop w1
  have hg3 := (Below.refl _ w2).alloc (Nat.le_refl _) (.cells #[.bool false] 4)
  replace hR0 := block_kept hR0 (grown_of hg3) (fun r e => by cases e)
  replace hR1 := block_kept hR1 (grown_of hg3) (fun r e => by cases e)
  replace hb0 := onto hb0 hg3
  obtain ⟨⟨z0, z1, z2, z3, z4, z5⟩, zf⟩ := six_of hR0
  obtain ⟨y0, yf⟩ := one_of hR1
  obtain ⟨p0, p1, pk, pb⟩ := put7 hR0 hR1 (.int .i64 0) (.int .i64 0) (.int .i64 0) (.int .i64 0) (.int .i64 0) (.int .i64 0) (.bool false)
  obtain ⟨⟨q0, q1, q2, q3, q4, q5⟩, -⟩ := six_of p0
  obtain ⟨q6, -⟩ := one_of p1
  gi_wp2_with fail
  refine ⟨.tuple #[.agg #[.int .i64 0, .int .i64 0, .int .i64 0, .int .i64 0, .int .i64 0, .int .i64 0], .bool false], ?_, rfl, hb0.trans pb⟩
  simp [results, Tryz.f19, go_sem, q0, q1, q2, q3, q4, q5, q6]

set_option maxHeartbeats 4000000 in
set_option maxRecDepth 100000 in
theorem read_some (s : ByteArray) (hs : s.size ≤ 140737488355328) (op : Nat) (hop : Asm.named (s.data.toList.takeWhile (· != 32)) = some op) (w : World) (L : Lay5 w) :
    Calls Tryz.prog 19 #[.string s] w fun e w' => ((∃ s' t d a i : Int, Asm.run (Asm.rounds (Dec.fm op)) (s.data.toList.drop (s.data.toList.takeWhile (· != 32)).length) [0, 0, 0, 0, 0] = some [s', t, d, a, i] ∧ e = .returned (.tuple #[.agg #[.int .i64 (op : Int), .int .i64 s', .int .i64 t, .int .i64 d, .int .i64 a, .int .i64 i], .bool true])) ∨
      (Asm.run (Asm.rounds (Dec.fm op)) (s.data.toList.drop (s.data.toList.takeWhile (· != 32)).length) [0, 0, 0, 0, 0] = none ∧ e = .returned (.tuple #[.agg #[.int .i64 0, .int .i64 0, .int .i64 0, .int .i64 0, .int .i64 0, .int .i64 0], .bool false]))) ∧ Below w.heap.size w w' := by
  have ho : op < 69 := List.mem_range.mp (List.mem_of_find?_eq_some hop)
  have hC := fun W => cut_any s 32 hs W
  have hN := fun W tb => named_any ⟨(s.data.toList.takeWhile (· != 32)).toArray⟩ W tb
  have htl : (s.data.toList.takeWhile (· != 32)).length ≤ s.size := (List.takeWhile_prefix _).length_le
  obtain ⟨rest0, hr0⟩ : ∃ r, s.data.toList.drop (s.data.toList.takeWhile (· != 32)).length = r := ⟨_, rfl⟩
  have hext : s.extract (s.data.toList.takeWhile (· != 32)).length s.size = ⟨rest0.toArray⟩ := by
    rw [← hr0]
    apply ByteArray.ext
    apply Array.ext'
    simp [ByteArray.data_extract]
    exact List.take_of_length_le (by simp)
  have hrz : rest0.length ≤ s.size := by rw [← hr0]; simp
  rw [hr0]
  simp only [hop] at hN
  clear hr0 hop
  generalize s.data.toList.takeWhile (· != 32) = nm at *
  generalize s.data.toList.drop (nm.length + 1) = rs at *
  generalize s.data.toList.contains 32 = fd at *
  have hnz : (⟨nm.toArray⟩ : ByteArray).size = nm.length := rfl
  refine (callsIn_wide (n := 3)).1 ?_
  refine callsIn_of_wp_marks Tryz.func19 rfl trivial ?_ rfl
  simp only [Tryz.ntmps19, List.size_toArray, List.length_cons, List.length_nil, Nat.reduceAdd, Nat.reduceSub, Array.replicate_succ, Array.replicate_zero, List.push_toArray, List.append_toArray, List.nil_append, List.cons_append]
  gi_wp2_with fail
  have hb0 := ((Below.refl _ w).alloc (Nat.le_refl _) (.cells #[.int .i64 0, .int .i64 0, .int .i64 0, .int .i64 0, .int .i64 0, .int .i64 0] 23)).alloc (by simp) (.cells #[.bool false] 4)
  have hR0 : ((w.alloc (.cells #[.int .i64 0, .int .i64 0, .int .i64 0, .int .i64 0, .int .i64 0, .int .i64 0] 23)).alloc (.cells #[.bool false] 4)).heap[w.heap.size]? = some (.cells #[.int .i64 0, .int .i64 0, .int .i64 0, .int .i64 0, .int .i64 0, .int .i64 0] 23 (0, 0)) :=
    (Below.heap_alloc _ _ _ (by simp)).trans (World.alloc_heap_new w _)
  have hR1 : ((w.alloc (.cells #[.int .i64 0, .int .i64 0, .int .i64 0, .int .i64 0, .int .i64 0, .int .i64 0] 23)).alloc (.cells #[.bool false] 4)).heap[w.heap.size + 1]? = some (.cells #[.bool false] 4 (0, 0)) := by
    have := World.alloc_heap_new (w.alloc (.cells #[.int .i64 0, .int .i64 0, .int .i64 0, .int .i64 0, .int .i64 0, .int .i64 0] 23)) (.cells #[.bool false] 4)
    rwa [World.size_alloc] at this
  generalize ((w.alloc (.cells #[.int .i64 0, .int .i64 0, .int .i64 0, .int .i64 0, .int .i64 0, .int .i64 0] 23)).alloc (.cells #[.bool false] 4)) = w0 at *
  refine ⟨trivial, ?_⟩
  refine (callsIn_wide.2 (hC _)).mono ?_
  rintro e w1 ⟨rfl, hb1⟩
  replace hR0 := block_kept hR0 (grown_of hb1) (fun r e => by cases e)
  replace hR1 := block_kept hR1 (grown_of hb1) (fun r e => by cases e)
  replace hb0 := onto hb0 hb1
  clear hb1 hC w0
  gi_wp2_with fail
  refine ⟨trivial, ?_⟩
  refine (callsIn_wide.2 (hN _ (L.on hb0).tabs)).mono ?_
  rintro e w2 ⟨⟨op', ok, rfl, hop⟩, hb1⟩
  obtain ⟨rfl, rfl⟩ : op' = (op : Int) ∧ ok = true := by
    rcases hop with ⟨k, hk, rfl, rfl⟩ | ⟨hk, -⟩
    · cases hk; exact ⟨rfl, rfl⟩
    · cases hk
  replace hR0 := block_kept hR0 (grown_of hb1) (fun r e => by cases e)
  replace hR1 := block_kept hR1 (grown_of hb1) (fun r e => by cases e)
  replace hb0 := onto hb0 hb1
  have hl2 := (Array.getElem?_eq_some_iff.1 hR1).1
  clear hb1 hN hop w1
  have c1 : (nm.length : Int) ≤ (s.size : Int) := by omega
  gi_wp2_with fail
  refine ⟨trivial, ?_⟩
  refine (callsIn_wide.2 (fields_any _ _)).mono ?_
  rintro e w3 ⟨hev, hw3⟩
  simp only [World.size_alloc] at hev
  subst hev
  have hg3 : Below w2.heap.size w2 w3 := by
    rw [hw3]
    exact ((((Below.refl _ w2).alloc (Nat.le_refl _) _).alloc (by simp) _).alloc (by simp; omega) _).alloc (by simp; omega) _
  have hD : Asm.Reads w.heap.size w2.heap.size op rest0 0 0 0 0 0 true w3 := by
    refine ⟨block_kept hR0 (grown_of hg3) (fun r e => by cases e), block_kept hR1 (grown_of hg3) (fun r e => by cases e), ?_, ?_, ?_, ?_⟩
    all_goals rw [hw3]
    · exact (four_new _ _ _ _ _).1
    · exact (four_new _ _ _ _ _).2.1
    · exact (four_new _ _ _ _ _).2.2.1
    · exact (four_new _ _ _ _ _).2.2.2
  replace hb0 := onto hb0 hg3
  generalize w2.heap.size = Bo at *
  clear hw3 hg3 hR0 hR1 w2 hext
  obtain ⟨xs, hxs⟩ := Asm.rs (Dec.fm op) (Dec.fm_lt op ho).2
  gi_wp2_with fail
  have hBx := (Array.getElem?_eq_some_iff.1 hD.x).1
  have hBi := (Array.getElem?_eq_some_iff.1 hD.i).1
  have hlt : w.heap.size + 1 < Bo := hl2
  refine wpIn_rangeFunc_ownF rfl (by omega) (gf := 49) (lb := #[.pointer (some ⟨Bo + 1 + 1 + 1, 0, none⟩)]) rfl trivial (enters_of Tryz.func49 (by kernel_rfl) rfl)
    (iter_stops _ (by omega) (Bo + 1 + 1 + 1) (Bo + 1) op ho xs hxs w3 (L.on hb0).tabs (by simp [World.cell?, hD.x]) (by simp [World.cell?, hD.i]) hBx hBi)
    (fun h1 h2 => h2.trans h1) (fun W l o o' hl _ _ _ => World.cell?_of_block (World.putObj_heap_other (by intro e; simp at e; omega))) (Below.refl _ _) (fun _ => rfl)
    (fun pre W => (∃ (rest : List UInt8) (s' t d a i : Int) (ok : Bool), Asm.Reads w.heap.size Bo op rest s' t d a i ok W ∧ rest.length ≤ 140737488355328 ∧ ∀ r, Asm.run (pre.map (·.1) ++ r) rest0 [0, 0, 0, 0, 0] = Asm.run r rest [s', t, d, a, i]) ∧ Below w.heap.size w W)
    (fun c pre W => (c = .ret ∧ (∀ r, Asm.run (pre.map (·.1) ++ r) rest0 [0, 0, 0, 0, 0] = none) ∧ W.heap[w.heap.size]? = some (.cells #[.int .i64 0, .int .i64 0, .int .i64 0, .int .i64 0, .int .i64 0, .int .i64 0] 23 (0, 0)) ∧ W.heap[w.heap.size + 1]? = some (.cells #[.bool false] 4 (0, 0))) ∧ Below w.heap.size w W)
    (OwnFrom.and (Own.from (fun s A B row hs hg hr => by obtain ⟨r, s', t, d, a, i, ok, h1, h2⟩ := hs; exact ⟨r, s', t, d, a, i, ok, h1.kept hg hr, h2⟩) _) (ownFrom_below (Nat.le_refl _) (by omega)))
    (fun c => OwnFrom.and (Own.from (fun s A B row hs hg hr => ⟨hs.1, hs.2.1, block_kept hs.2.2.1 hg hr, block_kept hs.2.2.2 hg hr⟩) _) (ownFrom_below (Nat.le_refl _) (by omega)))
    ⟨⟨rest0, 0, 0, 0, 0, 0, true, hD, by omega, fun r => rfl⟩, hb0⟩
    (fun x => { tmps := #[.string s, undef, .pointer (some ⟨w.heap.size, 0, none⟩), .pointer (some ⟨w.heap.size + 1, 0, none⟩), .string ⟨nm.toArray⟩, .string ⟨rs.toArray⟩, .bool fd, .int .i64 (op : Int), .pointer (some ⟨Bo, 0, none⟩), .pointer (some ⟨Bo + 1, 0, none⟩), .pointer (some ⟨Bo + 1 + 1, 0, none⟩),
      .string ⟨x.1.1.toArray⟩, .pointer (x.1.2.map fun k => ⟨Bo + 1, k + 1, none⟩), .tuple #[.string ⟨nm.toArray⟩, .string ⟨rs.toArray⟩, .bool fd], .string s, .tuple #[.string ⟨nm.toArray⟩, .string ⟨rs.toArray⟩, .bool fd], .string ⟨nm.toArray⟩, .string ⟨rs.toArray⟩, .bool fd, .tuple #[.int .i64 (op : Int), .bool true],
      .string ⟨nm.toArray⟩, .tuple #[.int .i64 (op : Int), .bool true], .int .i64 (op : Int), .bool true, .bool true, .bool false, undef, .int .i64 (op : Int), .agg #[.int .i64 (op : Int), .int .i64 0, .int .i64 0, .int .i64 0, .int .i64 0, .int .i64 0], .string s, .string ⟨nm.toArray⟩, .int .i64 (nm.length : Int),
      .string ⟨rest0.toArray⟩, .func (.func 49) #[] #[.pointer (some ⟨Bo + 1 + 1 + 1, 0, none⟩)], .string ⟨x.1.1.toArray⟩, .pointer (x.1.2.map fun k => ⟨Bo + 1, k + 1, none⟩), undef, undef, undef, undef, undef, undef, undef, undef, undef, undef, undef, undef, undef, undef, undef, undef, undef, undef, undef, undef, undef, undef, undef], defers := [] }) ?assign ?body ?done ?stop
  case assign =>
    intro l x W K hK
    unfold Asm.encs
    gi_wp2
    exact hK
  case body =>
    rintro l pre ⟨⟨m, k⟩, hm2, hk5⟩ W ⟨⟨rest, s', t, d, a, i, ok, hR, hrl, hrun⟩, hB⟩ hpre
    obtain ⟨⟨z0, z1, z2, z3, z4, z5⟩, zf⟩ := six_of hR.r0
    obtain ⟨y0, yf⟩ := one_of hR.r1
    obtain ⟨o0, of⟩ := one_of hR.o
    obtain ⟨r0, rf⟩ := one_of hR.r
    have hne0 : ¬ w.heap.size = Bo := by omega
    have hne1 : ¬ w.heap.size = Bo + 1 + 1 := by omega
    have hne2 : ¬ w.heap.size + 1 = Bo := by omega
    have hne3 : ¬ w.heap.size + 1 = Bo + 1 + 1 := by omega
    have hne4 : ¬ w.heap.size = Bo + 1 := by omega
    have hne5 : ¬ w.heap.size + 1 = Bo + 1 := by omega
    have hcp : ∀ W, Calls Tryz.prog 41 #[.string ⟨rest.toArray⟩, .string ⟨m.toArray⟩] W fun e w' => e = .returned (.tuple #[.string ⟨(Lib.trimPrefix rest m).toArray⟩, .bool (Lib.hasPrefix rest m)]) ∧ w' = W := fun W => Tryz.strings_CutPrefix ⟨rest.toArray⟩ ⟨m.toArray⟩ W
    cases hp : Lib.hasPrefix rest m with
    | false =>
      rw [hp] at hcp
      have hno : ∀ r, Asm.run ((pre ++ [(⟨(m, k), hm2, hk5⟩ : Asm.Rd)]).map (·.1) ++ r) rest0 [0, 0, 0, 0, 0] = none := by
        intro r
        rw [List.map_append, List.append_assoc, hrun]
        cases k <;> simp [Asm.run, hp]
      generalize Lib.trimPrefix rest m = tp at *
      clear hrun hp
      gi_wp2_with fail
      refine ⟨trivial, ?_⟩
      refine (CallsIn.inRound l (callsIn_wide.2 (hcp _))).mono ?_
      rintro e w' ⟨rfl, rfl⟩
      clear hcp
      gi_wp2_with fail
      have hR2 := (hR.setR hlt tp).setO hlt false
      obtain ⟨p0, p1, pk, pb⟩ := put7 hR2.r0 hR2.r1 (.int .i64 0) (.int .i64 0) (.int .i64 0) (.int .i64 0) (.int .i64 0) (.int .i64 0) (.bool false)
      exact ⟨((KeepsOthers.setCell _ _ _).trans (KeepsOthers.setCell _ _ _)).trans pk, ⟨rfl, hno, p0, p1⟩, ((hB.setCell (p := ⟨Bo + 1 + 1, 0, none⟩) (show w.heap.size ≤ Bo + 1 + 1 by omega) _).setCell (p := ⟨Bo, 0, none⟩) (show w.heap.size ≤ Bo by omega) _).trans pb⟩
    | true =>
      rw [hp] at hcp
      have htp : Lib.trimPrefix rest m = rest.drop m.length := by unfold Lib.trimPrefix; rw [hp]; rfl
      rw [htp] at hcp
      obtain ⟨tp, htp'⟩ : ∃ tp, rest.drop m.length = tp := ⟨_, rfl⟩
      rw [htp'] at hcp
      have htl : tp.length ≤ 140737488355328 := by rw [← htp']; simp; omega
      have hR2 := (hR.setR hlt tp).setO hlt true
      have hB2 := (hB.setCell (p := ⟨Bo + 1 + 1, 0, none⟩) (show w.heap.size ≤ Bo + 1 + 1 by omega) (.string ⟨tp.toArray⟩)).setCell (p := ⟨Bo, 0, none⟩) (show w.heap.size ≤ Bo by omega) (.bool true)
      have hKO2 : KeepsOthers W ((W.setCell ⟨Bo + 1 + 1, 0, none⟩ (.string ⟨tp.toArray⟩)).setCell ⟨Bo, 0, none⟩ (.bool true)) := (KeepsOthers.setCell _ _ _).trans (KeepsOthers.setCell _ _ _)
      obtain ⟨xc, -⟩ := one_of hR.x
      cases k with
      | none =>
        have hgo : ∀ r, Asm.run ((pre ++ [(⟨(m, none), hm2, hk5⟩ : Asm.Rd)]).map (·.1) ++ r) rest0 [0, 0, 0, 0, 0] = Asm.run r tp [s', t, d, a, i] := by
          intro r
          rw [List.map_append, List.append_assoc, hrun]
          simp [Asm.run, hp, htp']
        clear hrun hp htp htp'
        gi_wp2_with fail
        refine ⟨trivial, ?_⟩
        refine (CallsIn.inRound l (callsIn_wide.2 (hcp _))).mono ?_
        rintro e w' ⟨rfl, rfl⟩
        clear hcp
        gi_wp2_with fail
        exact ⟨hKO2, (one_of hR2.x).1.trans xc.symm, ⟨tp, s', t, d, a, i, true, hR2, htl, hgo⟩, hB2⟩
      | some k =>
        have hk5' : k < 5 := hk5 k rfl
        obtain ⟨n, okn, hcase, htk⟩ := taken_any ⟨tp.toArray⟩ htl
        obtain ⟨rs2, hrs2⟩ : ∃ r, tp.dropWhile (Asm.nums.contains ·) = r := ⟨_, rfl⟩
        have htk2 : ∀ w, Lay5 w → Calls Tryz.prog 42 #[.string ⟨tp.toArray⟩] w fun e w' => e = .returned (.tuple #[.int .i64 n, .string ⟨rs2.toArray⟩, .bool okn]) ∧ Below w.heap.size w w' := by
          rw [← hrs2]; exact htk
        replace hcase : (Asm.taken tp = some (n, rs2) ∧ okn = true) ∨ (Asm.taken tp = none ∧ okn = false) := by
          rcases hcase with ⟨r, h1, h2⟩ | h
          · left
            refine ⟨?_, h2⟩
            have h1' : Asm.taken tp = some (n, r) := h1
            rw [h1', ← hrs2, Asm.taken_rest h1']
          · exact Or.inr h
        have hl2 : rs2.length ≤ 140737488355328 := by
          rw [← hrs2]
          have := (List.dropWhile_suffix (l := tp) (Asm.nums.contains ·)).length_le
          omega
        have hL2 := L.on hB2
        have hgo : ∀ r, Asm.run ((pre ++ [(⟨(m, some k), hm2, hk5⟩ : Asm.Rd)]).map (·.1) ++ r) rest0 [0, 0, 0, 0, 0] = (match Asm.taken tp with | none => none | some (n, rest') => Asm.run r rest' ([s', t, d, a, i].set k n)) := by
          intro r
          rw [List.map_append, List.append_assoc, hrun]
          simp only [List.map_cons, List.map_nil, List.cons_append, List.nil_append, Asm.run, hp, htp', if_true]
          cases Asm.taken tp <;> rfl
        clear hrun hp htp htp' htk hrs2
        gi_wp2_with fail
        refine ⟨trivial, ?_⟩
        refine (CallsIn.inRound l (callsIn_wide.2 (hcp _))).mono ?_
        rintro e w' ⟨rfl, rfl⟩
        clear hcp
        gi_wp2_with fail
        refine ⟨trivial, ?_⟩
        refine (CallsIn.inRound l (callsIn_wide.2 (htk2 _ hL2))).mono ?_
        rintro e W3 ⟨rfl, hb3⟩
        have hR3 := hR2.kept (grown_of hb3) (fun r e => by cases e)
        have hB3 := onto hB2 hb3
        have hKO3 := hKO2.trans (keepsOthers_below hb3)
        clear hR2 hB2 hKO2 hb3 hR z0 z1 z2 z3 z4 z5 zf y0 yf o0 of r0 rf htk2 hL2 hB
        obtain ⟨⟨z0, z1, z2, z3, z4, z5⟩, zf⟩ := six_of hR3.r0
        obtain ⟨y0, yf⟩ := one_of hR3.r1
        obtain ⟨o0, of⟩ := one_of hR3.o
        obtain ⟨r0, rf⟩ := one_of hR3.r
        obtain ⟨vk, hvk⟩ : ∃ v, W3.cell? ⟨Bo + 1, k + 1, none⟩ = some v := by
          obtain ⟨⟨c0, c1, c2, c3, c4, c5⟩, -⟩ := six_of hR3.i
          have hcases : k = 0 ∨ k = 1 ∨ k = 2 ∨ k = 3 ∨ k = 4 := by omega
          rcases hcases with rfl | rfl | rfl | rfl | rfl
          · exact ⟨_, c1⟩
          · exact ⟨_, c2⟩
          · exact ⟨_, c3⟩
          · exact ⟨_, c4⟩
          · exact ⟨_, c5⟩
        have hfk : W3.frozen? ⟨Bo + 1, k + 1, none⟩ = false := (six_of hR3.i).2 _
        obtain ⟨s2, t2, d2, a2, i2, hset, hR4⟩ := hR3.setI hlt k hk5' n
        rcases hcase with ⟨htk, rfl⟩ | ⟨htk, rfl⟩
        · simp only [htk, hset] at hgo
          have hR5 := (hR4.setR hlt rs2).setO hlt true
          replace hgo := hide hgo
          clear hset htk hR4
          gi_wp2_with fail
          exact ⟨((hKO3.trans (KeepsOthers.setCell _ _ _)).trans (KeepsOthers.setCell _ _ _)).trans (KeepsOthers.setCell _ _ _), (one_of hR5.x).1.trans xc.symm, ⟨rs2, s2, t2, d2, a2, i2, true, hR5, hl2, hgo.out⟩,
            ((hB3.setCell (p := ⟨Bo + 1, k + 1, none⟩) (show w.heap.size ≤ Bo + 1 by omega) _).setCell (p := ⟨Bo + 1 + 1, 0, none⟩) (show w.heap.size ≤ Bo + 1 + 1 by omega) _).setCell (p := ⟨Bo, 0, none⟩) (show w.heap.size ≤ Bo by omega) _⟩
        · simp only [htk] at hgo
          have hR5 := (hR4.setR hlt rs2).setO hlt false
          replace hgo := hide hgo
          clear hset htk hR4
          obtain ⟨p0, p1, pk, pb⟩ := put7 hR5.r0 hR5.r1 (.int .i64 0) (.int .i64 0) (.int .i64 0) (.int .i64 0) (.int .i64 0) (.int .i64 0) (.bool false)
          gi_wp2_with fail
          exact ⟨(((hKO3.trans (KeepsOthers.setCell _ _ _)).trans (KeepsOthers.setCell _ _ _)).trans (KeepsOthers.setCell _ _ _)).trans pk, ⟨rfl, hgo.out, p0, p1⟩,
            (((hB3.setCell (p := ⟨Bo + 1, k + 1, none⟩) (show w.heap.size ≤ Bo + 1 by omega) _).setCell (p := ⟨Bo + 1 + 1, 0, none⟩) (show w.heap.size ≤ Bo + 1 + 1 by omega) _).setCell (p := ⟨Bo, 0, none⟩) (show w.heap.size ≤ Bo by omega) _).trans pb⟩
  case done =>
    rintro D ys W hD rfl ⟨⟨rest, s', t, d, a, i, ok, hR, hrl, hrun⟩, hB⟩ hK
    obtain ⟨⟨i0, i1, i2, i3, i4, i5⟩, -⟩ := six_of hR.i
    obtain ⟨⟨z0, z1, z2, z3, z4, z5⟩, zf⟩ := six_of hR.r0
    obtain ⟨y0, yf⟩ := one_of hR.r1
    gi_wp2_with fail
    obtain ⟨p0, p1, pk, pb⟩ := put7 hR.r0 hR.r1 (.int .i64 (op : Int)) (.int .i64 s') (.int .i64 t) (.int .i64 d) (.int .i64 a) (.int .i64 i) (.bool true)
    have hrn := hrun []
    rw [List.append_nil, hxs] at hrn
    generalize (((((((W.setCell ⟨w.heap.size, 0, none⟩ (.int .i64 (op : Int))).setCell ⟨w.heap.size, 1, none⟩ (.int .i64 s')).setCell ⟨w.heap.size, 2, none⟩ (.int .i64 t)).setCell ⟨w.heap.size, 3, none⟩ (.int .i64 d)).setCell ⟨w.heap.size, 4, none⟩ (.int .i64 a)).setCell ⟨w.heap.size, 5, none⟩ (.int .i64 i)).setCell ⟨w.heap.size + 1, 0, none⟩ (.bool true)) = W7 at *
    have hK' := pk.same D _ hK rfl
    obtain ⟨⟨q0, q1, q2, q3, q4, q5⟩, -⟩ := six_of (block_kept p0 (grownBy_putObj' _ D (.deferred none)) (fun r e => by cases e; exact ⟨_, hK', rfl⟩))
    obtain ⟨q6, -⟩ := one_of (block_kept p1 (grownBy_putObj' _ D (.deferred none)) (fun r e => by cases e; exact ⟨_, hK', rfl⟩))
    refine ⟨by simp, .inl ⟨_, _, rfl, run_takeDeferred hK', ?_⟩⟩
    refine ⟨.tuple #[.agg #[.int .i64 (op : Int), .int .i64 s', .int .i64 t, .int .i64 d, .int .i64 a, .int .i64 i], .bool true], ?_, Or.inl ⟨s', t, d, a, i, hrn, rfl⟩, (hB.trans pb).trans (belowK_b (w := w) (Nat.le_refl _) _ D _ _ (by omega) hK' rfl rfl)⟩
    simp [results, Tryz.f19, go_sem, q0, q1, q2, q3, q4, q5, q6]
  case stop =>
    rintro D c pre W hD hpre ⟨⟨rfl, hrun, hz0, hz1⟩, hB⟩ hK
    gi_wp2
    obtain ⟨⟨q0, q1, q2, q3, q4, q5⟩, -⟩ := six_of (block_kept hz0 (grownBy_putObj' _ D (.deferred none)) (fun r e => by cases e; exact ⟨_, hK, rfl⟩))
    obtain ⟨q6, -⟩ := one_of (block_kept hz1 (grownBy_putObj' _ D (.deferred none)) (fun r e => by cases e; exact ⟨_, hK, rfl⟩))
    have hrn : Asm.run (Asm.rounds (Dec.fm op)) rest0 [0, 0, 0, 0, 0] = none := by
      obtain ⟨r, hr⟩ := hpre
      have := hrun (r.map (·.1))
      rwa [← List.map_append, hr, hxs] at this
    refine ⟨by simp, .inl ⟨_, _, rfl, run_takeDeferred hK, ?_⟩⟩
    refine ⟨.tuple #[.agg #[.int .i64 0, .int .i64 0, .int .i64 0, .int .i64 0, .int .i64 0, .int .i64 0], .bool false], ?_, Or.inr ⟨hrn, rfl⟩, hB.trans (belowK_b (w := w) (Nat.le_refl _) _ D _ _ (by omega) hK rfl rfl)⟩
    simp [results, Tryz.f19, go_sem, q0, q1, q2, q3, q4, q5, q6]

end Go.Proofs.YtahbbhgoacbejaaGreatDoor
