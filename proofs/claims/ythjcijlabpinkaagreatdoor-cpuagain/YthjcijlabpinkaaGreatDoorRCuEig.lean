/- Layer 13: contract of the program's Text of a state. -/
import Derived.Test.YthjcijlabpinkaaGreatDoorRCuSev
import Derived.Test.YthjcijlabpinkaaGreatDoorRCuOne
import Derived.Test.YthjcijlabpinkaaGreatDoorRTmAll
import Derived.Laws.EntriesVeiled
import Derived.Test.YthjcijlabpinkaaGreatDoorRDmParse
import Derived.Test.YthjcijlabpinkaaGreatDoorRBuOne
namespace Go.Proofs.YthjcijlabpinkaaGreatDoor
open Go.RowKit
set_option linter.unusedVariables false
set_option maxRecDepth 100000
set_option linter.unusedSimpArgs false

structure BufC (x : World) (b g n : Nat) (c : Array Value) : Prop where
  box : x.cell? ⟨b, 0, none⟩ = some (.slice (some ⟨g, 0, none⟩) n 252)
  free : x.frozen? ⟨b, 0, none⟩ = false
  row : x.heap[g]? = some (.cells c 5 (0, 0))
  ne : g < b
  lt : b < x.heap.size

theorem append_room252 {x : World} {g n : Nat} {c : Array Value} (hr : x.heap[g]? = some (.cells c 5 (0, 0))) (l : List Value) (h1 : ∀ u ∈ l, u.oneCell' = true) (hg : g < x.heap.size) (hn : n + l.length ≤ 252) (hc : c.size = 252) :
    (Builtin.append_ #[56, 56] 56 #[.slice (some ⟨g, 0, none⟩) n 252, .slice (some ⟨x.heap.size, 0, none⟩) l.length l.length]).run Tryz.prog (x.alloc (.cells l.toArray 5)) =
      .ok (.slice (some ⟨g, 0, none⟩) (n + l.length) 252) ((x.alloc (.cells l.toArray 5)).setRow g (Tm.spliced c n l)) := by
  obtain ⟨i, hi, -, hsz, -⟩ := info_parts (show (Tryz.prog.info? 5).map (fun i => (i.zero, i.size, i.bytes)) = some (some (.int .u8 0), 1, 1) by kernel_rfl)
  have h := run_append_room (P := Tryz.prog) (x.alloc (.cells l.toArray 5)) 56 56 5 i Tryz.underlying56 hi g n 252 c (by rw [heap_alloc_old x _ hg]; exact hr) ⟨x.heap.size, 0, none⟩ l.length l.length l (by rw [hsz]; omega) (fun j u hu => by
    rw [Addr.add_lit, World.cell?_alloc_new]
    simpa using hu) h1 hn (by rw [hsz]; omega)
  rw [hsz] at h
  simpa [Tm.spliced] using h

theorem BufC.put {x : World} {b g n : Nat} {c : Array Value} (h : BufC x b g n c) (l : List Value) (n' : Nat) :
    BufC (((x.alloc (.cells l.toArray 5)).setRow g (Tm.spliced c n l)).setCell ⟨b, 0, none⟩ (.slice (some ⟨g, 0, none⟩) n' 252)) b g n' (Tm.spliced c n l) := by
  have hg : g < x.heap.size := Nat.lt_trans h.ne h.lt
  have h4 : ((x.alloc (.cells l.toArray 5)).setRow g (Tm.spliced c n l)).cell? ⟨b, 0, none⟩ = some (.slice (some ⟨g, 0, none⟩) n 252) := by
    rw [cell_setRow_gt _ _ _ _ _ h.ne, World.cell?_alloc_past _ _ _ h.lt, h.box]
  have h5 : ((x.alloc (.cells l.toArray 5)).setRow g (Tm.spliced c n l)).frozen? ⟨b, 0, none⟩ = false := by
    rw [frozen_setRow, World.frozen?_alloc_past _ _ _ h.lt, h.free]
  refine ⟨World.cell?_setCell_same _ _ _ h4, by rw [World.frozen?_setCell, h5], ?_, h.ne, ?_⟩
  · rw [Below.heap_setCell _ _ _ g (by show g ≠ b; have := h.ne; omega)]
    exact setRow_heap _ g c (Tm.spliced c n l) 5 (0, 0) (by rw [heap_alloc_old x _ hg, h.row])
  · rw [World.size_setCell, setRow_size]
    have := h.lt
    simp
    omega

theorem BufC.other {x : World} {b g n : Nat} {c : Array Value} (h : BufC x b g n c) (l : List Value) (n' : Nat) (k : Nat) (hk : k < x.heap.size) (hb : k ≠ b) (hg : k ≠ g) :
    (((x.alloc (.cells l.toArray 5)).setRow g (Tm.spliced c n l)).setCell ⟨b, 0, none⟩ (.slice (some ⟨g, 0, none⟩) n' 252)).heap[k]? = x.heap[k]? := by
  rw [Below.heap_setCell _ _ _ k (by show k ≠ b; exact hb), setRow_other _ g k _ hg, heap_alloc_old x _ hk]

theorem BufC.below {x : World} {b g n : Nat} {c : Array Value} (h : BufC x b g n c) (l : List Value) (n' : Nat) {N : Nat} {W : World} (hB : Below N W x) (hN : N ≤ g) :
    Below N W (((x.alloc (.cells l.toArray 5)).setRow g (Tm.spliced c n l)).setCell ⟨b, 0, none⟩ (.slice (some ⟨g, 0, none⟩) n' 252)) := by
  have := h.ne
  have := h.lt
  exact (below_setRow (hB.alloc (by omega) _) hN _).setCell (by show N ≤ b; omega) _

theorem cell_heap {x y : World} {q k : Nat} (h : y.heap[q]? = x.heap[q]?) : y.cell? ⟨q, k, none⟩ = x.cell? ⟨q, k, none⟩ := by
  unfold World.cell?
  simp only [h]

theorem cell_lt {x : World} {q k : Nat} {v : Value} (h : x.cell? ⟨q, k, none⟩ = some v) : q < x.heap.size := by
  by_cases hq : q < x.heap.size
  · exact hq
  · have e : x.heap[q]? = none := Array.getElem?_eq_none (by omega)
    unfold World.cell? at h
    simp [e] at h

set_option maxHeartbeats 2000000 in
theorem putC_any {v : Int} (hv : Cp.W32 v) {x : World} {b g n q k : Nat} {c : Array Value} (h : BufC x b g n c) (hn : n + 4 ≤ 252) (hc : c.size = 252) (hq : x.cell? ⟨q, k, none⟩ = some (.int .u32 v)) (hqb : q ≠ b) (hqg : q ≠ g) :
    Calls Tryz.prog 100 #[.pointer (some ⟨q, k, none⟩), .pointer (some ⟨b, 0, none⟩)] x fun e w' => e = .returned (.tuple #[]) ∧ BufC w' b g (n + 4) (Tm.spliced c n (Tm.quad v)) ∧
      (∀ k, k < x.heap.size → k ≠ b → k ≠ g → w'.heap[k]? = x.heap[k]?) ∧ x.heap.size ≤ w'.heap.size ∧ (∀ N W, Below N W x → N ≤ g → Below N W w') := by
  obtain ⟨v0, v1⟩ := hv
  have hy : BufC x.drew b g n c := ⟨h.box, h.free, h.row, h.ne, h.lt⟩
  have hqy : x.drew.cell? ⟨q, k, none⟩ = some (.int .u32 v) := hq
  have hB0 : ∀ N W, Below N W x → Below N W x.drew := fun N W h => h.drew
  have hz : x.drew.heap.size = x.heap.size := rfl
  have hh : ∀ i : Nat, x.drew.heap[i]? = x.heap[i]? := fun i => rfl
  have hql : q < x.heap.size := cell_lt hq
  generalize hX : x.drew = y at hy hqy hB0 hz hh
  have h1 := hy.box
  have h2 := hy.free
  have h3 := append_room252 hy.row (Tm.quad v) (by intro u hu; simp [Tm.quad] at hu; rcases hu with rfl | rfl | rfl | rfl <;> rfl) (Nat.lt_trans hy.ne hy.lt) (by simpa [Tm.quad] using hn) hc
  have h4 : ((y.alloc (.cells (Tm.quad v).toArray 5)).setRow g (Tm.spliced c n (Tm.quad v))).cell? ⟨b, 0, none⟩ = some (.slice (some ⟨g, 0, none⟩) n 252) := by
    rw [cell_setRow_gt _ _ _ _ _ hy.ne, World.cell?_alloc_past _ _ _ hy.lt, hy.box]
  have h5 : ((y.alloc (.cells (Tm.quad v).toArray 5)).setRow g (Tm.spliced c n (Tm.quad v))).frozen? ⟨b, 0, none⟩ = false := by
    rw [frozen_setRow, World.frozen?_alloc_past _ _ _ hy.lt, hy.free]
  have h6 : (y.alloc (.cells (Tm.quad v).toArray 5)).cell? ⟨b, 0, none⟩ = some (.slice (some ⟨g, 0, none⟩) n 252) := by
    rw [World.cell?_alloc_past _ _ _ hy.lt, hy.box]
  have h7 : (y.alloc (.cells (Tm.quad v).toArray 5)).cell? ⟨q, k, none⟩ = some (.int .u32 v) := by rw [World.cell?_alloc_past _ _ _ (by rw [hz]; exact hql), hqy]
  have h8 : ((y.alloc (.cells (Tm.quad v).toArray 5)).setRow g (Tm.spliced c n (Tm.quad v))).cell? ⟨q, k, none⟩ = some (.int .u32 v) := by
    rw [cell_heap (setRow_other _ g q _ hqg), h7]
  have h9 : (((y.alloc (.cells (Tm.quad v).toArray 5)).setRow g (Tm.spliced c n (Tm.quad v))).setCell ⟨b, 0, none⟩ (.slice (some ⟨g, 0, none⟩) (n + 4) 252)).cell? ⟨q, k, none⟩ = some (.int .u32 v) := by
    rw [cell_heap (Below.heap_setCell _ _ _ q (by show q ≠ b; exact hqb)), h8]
  have hs : x.heap.size ≤ (((y.alloc (.cells (Tm.quad v).toArray 5)).setRow g (Tm.spliced c n (Tm.quad v))).setCell ⟨b, 0, none⟩ (.slice (some ⟨g, 0, none⟩) (n + 4) 252)).heap.size := by
    rw [World.size_setCell, setRow_size]; simp; omega
  have fin := hide (And.intro (hy.put (Tm.quad v) (n + 4)) (And.intro (fun k (e : k < x.heap.size) e1 e2 => (hy.other (Tm.quad v) (n + 4) k (by omega) e1 e2).trans (hh k)) (And.intro hs (fun N W (e : Below N W x) => hy.below (Tm.quad v) (n + 4) (N := N) (W := W) (hB0 N W e)))))
  unfold Tm.quad at h3 h4 h5 h6 h7 h8 h9
  simp only [List.length_cons, List.length_nil, Nat.zero_add, Nat.reduceAdd] at h3
  rw [hz] at h3
  have k1 : IntKind.u8.wrap (v / 16777216) = v / 16777216 := by rw [IntKind.wrap_u8]; omega
  have k2 : IntKind.u8.wrap (v / 65536) = v / 65536 % 256 := by rw [IntKind.wrap_u8]
  have k3 : IntKind.u8.wrap (v / 256) = v / 256 % 256 := by rw [IntKind.wrap_u8]
  have k4 : IntKind.u8.wrap v = v % 256 := by rw [IntKind.wrap_u8]
  clear h hs hB0 hh hy
  go_enter Tryz.func100, Tryz.ntmps100
  go_wp2_with fail
  refine wp_region_held_drew (S := fun z => z.cell? ⟨q, k, none⟩ = some (.int .u32 v)) (by kernel_rfl) (by rw [hX]; exact hqy) (fun hHeld => ?_)
  rw [hX] at *
  refine wpAnyH_take (i := 1) (oi := ⟨some 4, .move (.tmp 0), 159, "text.go:32", #[], none⟩) (v := ?_) rfl (by kernel_rfl) (by kernel_rfl) (by kernel_rfl) (fun _ _ _ h => h) (Or.inl ⟨by rfl, ?_⟩) (by assumption) ?_
  rotate_left
  · intro y hSw
    have q0 : y.cell? ⟨q, k, none⟩ = some (.int .u32 v) := hSw
    go_simp
    try with_reducible rfl
  try simp only [Act.put, List.setIfInBounds_toArray, List.set_cons_zero, List.set_cons_succ]
  refine wpAnyH_take (i := 2) (oi := ⟨some 5, .nilCheck (.tmp 4), 0, "text.go:32", #[⟨1, .data⟩], none⟩) (v := ?_) rfl (by kernel_rfl) (by kernel_rfl) (by kernel_rfl) (fun _ _ _ h => h) (Or.inl ⟨by rfl, ?_⟩) (by assumption) ?_
  rotate_left
  · intro y hSw
    have q0 : y.cell? ⟨q, k, none⟩ = some (.int .u32 v) := hSw
    go_simp
    try with_reducible rfl
  try simp only [Act.put, List.setIfInBounds_toArray, List.set_cons_zero, List.set_cons_succ]
  refine wpAnyH_take (i := 3) (oi := ⟨some 6, .load 22 (.tmp 5), 22, "text.go:32", #[⟨2, .data⟩], none⟩) (v := ?_) rfl (by kernel_rfl) (by kernel_rfl) (by kernel_rfl) (fun _ _ _ h => h) (Or.inl ⟨by rfl, ?_⟩) (by assumption) ?_
  rotate_left
  · intro y hSw
    have q0 : y.cell? ⟨q, k, none⟩ = some (.int .u32 v) := hSw
    go_simp
    try with_reducible rfl
  try simp only [Act.put, List.setIfInBounds_toArray, List.set_cons_zero, List.set_cons_succ]
  refine wpAnyH_take (i := 4) (oi := ⟨some 7, .binOp .shr 22 (.tmp 6) (.const (.int .u64 24)) 89, 22, "text.go:32", #[⟨3, .data⟩], none⟩) (v := ?_) rfl (by kernel_rfl) (by kernel_rfl) (by kernel_rfl) (fun _ _ _ h => h) (Or.inl ⟨by rfl, ?_⟩) (by assumption) ?_
  rotate_left
  · intro y hSw
    have q0 : y.cell? ⟨q, k, none⟩ = some (.int .u32 v) := hSw
    go_simp
    try with_reducible rfl
  try simp only [Act.put, List.setIfInBounds_toArray, List.set_cons_zero, List.set_cons_succ]
  refine wpAnyH_take (i := 5) (oi := ⟨some 8, .convert 22 5 (.tmp 7), 5, "text.go:32", #[⟨4, .data⟩], none⟩) (v := ?_) rfl (by kernel_rfl) (by kernel_rfl) (by kernel_rfl) (fun _ _ _ h => h) (Or.inl ⟨by rfl, ?_⟩) (by assumption) ?_
  rotate_left
  · intro y hSw
    have q0 : y.cell? ⟨q, k, none⟩ = some (.int .u32 v) := hSw
    go_simp
    try with_reducible rfl
  try simp only [Act.put, List.setIfInBounds_toArray, List.set_cons_zero, List.set_cons_succ]
  refine wpAnyH_take (i := 6) (oi := ⟨some 9, .move (.tmp 0), 159, "text.go:32", #[], none⟩) (v := ?_) rfl (by kernel_rfl) (by kernel_rfl) (by kernel_rfl) (fun _ _ _ h => h) (Or.inl ⟨by rfl, ?_⟩) (by assumption) ?_
  rotate_left
  · intro y hSw
    have q0 : y.cell? ⟨q, k, none⟩ = some (.int .u32 v) := hSw
    go_simp
    try with_reducible rfl
  try simp only [Act.put, List.setIfInBounds_toArray, List.set_cons_zero, List.set_cons_succ]
  refine wpAnyH_take (i := 7) (oi := ⟨some 10, .nilCheck (.tmp 9), 0, "text.go:32", #[⟨6, .data⟩], none⟩) (v := ?_) rfl (by kernel_rfl) (by kernel_rfl) (by kernel_rfl) (fun _ _ _ h => h) (Or.inl ⟨by rfl, ?_⟩) (by assumption) ?_
  rotate_left
  · intro y hSw
    have q0 : y.cell? ⟨q, k, none⟩ = some (.int .u32 v) := hSw
    go_simp
    try with_reducible rfl
  try simp only [Act.put, List.setIfInBounds_toArray, List.set_cons_zero, List.set_cons_succ]
  refine wpAnyH_take (i := 8) (oi := ⟨some 11, .load 22 (.tmp 10), 22, "text.go:32", #[⟨7, .data⟩], none⟩) (v := ?_) rfl (by kernel_rfl) (by kernel_rfl) (by kernel_rfl) (fun _ _ _ h => h) (Or.inl ⟨by rfl, ?_⟩) (by assumption) ?_
  rotate_left
  · intro y hSw
    have q0 : y.cell? ⟨q, k, none⟩ = some (.int .u32 v) := hSw
    go_simp
    try with_reducible rfl
  try simp only [Act.put, List.setIfInBounds_toArray, List.set_cons_zero, List.set_cons_succ]
  refine wpAnyH_take (i := 9) (oi := ⟨some 12, .binOp .shr 22 (.tmp 11) (.const (.int .u64 16)) 89, 22, "text.go:32", #[⟨8, .data⟩], none⟩) (v := ?_) rfl (by kernel_rfl) (by kernel_rfl) (by kernel_rfl) (fun _ _ _ h => h) (Or.inl ⟨by rfl, ?_⟩) (by assumption) ?_
  rotate_left
  · intro y hSw
    have q0 : y.cell? ⟨q, k, none⟩ = some (.int .u32 v) := hSw
    go_simp
    try with_reducible rfl
  try simp only [Act.put, List.setIfInBounds_toArray, List.set_cons_zero, List.set_cons_succ]
  refine wpAnyH_take (i := 10) (oi := ⟨some 13, .convert 22 5 (.tmp 12), 5, "text.go:32", #[⟨9, .data⟩], none⟩) (v := ?_) rfl (by kernel_rfl) (by kernel_rfl) (by kernel_rfl) (fun _ _ _ h => h) (Or.inl ⟨by rfl, ?_⟩) (by assumption) ?_
  rotate_left
  · intro y hSw
    have q0 : y.cell? ⟨q, k, none⟩ = some (.int .u32 v) := hSw
    go_simp
    try with_reducible rfl
  try simp only [Act.put, List.setIfInBounds_toArray, List.set_cons_zero, List.set_cons_succ]
  refine wpAnyH_take (i := 11) (oi := ⟨some 14, .move (.tmp 0), 159, "text.go:32", #[], none⟩) (v := ?_) rfl (by kernel_rfl) (by kernel_rfl) (by kernel_rfl) (fun _ _ _ h => h) (Or.inl ⟨by rfl, ?_⟩) (by assumption) ?_
  rotate_left
  · intro y hSw
    have q0 : y.cell? ⟨q, k, none⟩ = some (.int .u32 v) := hSw
    go_simp
    try with_reducible rfl
  try simp only [Act.put, List.setIfInBounds_toArray, List.set_cons_zero, List.set_cons_succ]
  refine wpAnyH_take (i := 12) (oi := ⟨some 15, .nilCheck (.tmp 14), 0, "text.go:32", #[⟨11, .data⟩], none⟩) (v := ?_) rfl (by kernel_rfl) (by kernel_rfl) (by kernel_rfl) (fun _ _ _ h => h) (Or.inl ⟨by rfl, ?_⟩) (by assumption) ?_
  rotate_left
  · intro y hSw
    have q0 : y.cell? ⟨q, k, none⟩ = some (.int .u32 v) := hSw
    go_simp
    try with_reducible rfl
  try simp only [Act.put, List.setIfInBounds_toArray, List.set_cons_zero, List.set_cons_succ]
  refine wpAnyH_take (i := 13) (oi := ⟨some 16, .load 22 (.tmp 15), 22, "text.go:32", #[⟨12, .data⟩], none⟩) (v := ?_) rfl (by kernel_rfl) (by kernel_rfl) (by kernel_rfl) (fun _ _ _ h => h) (Or.inl ⟨by rfl, ?_⟩) (by assumption) ?_
  rotate_left
  · intro y hSw
    have q0 : y.cell? ⟨q, k, none⟩ = some (.int .u32 v) := hSw
    go_simp
    try with_reducible rfl
  try simp only [Act.put, List.setIfInBounds_toArray, List.set_cons_zero, List.set_cons_succ]
  refine wpAnyH_take (i := 14) (oi := ⟨some 17, .binOp .shr 22 (.tmp 16) (.const (.int .u64 8)) 89, 22, "text.go:32", #[⟨13, .data⟩], none⟩) (v := ?_) rfl (by kernel_rfl) (by kernel_rfl) (by kernel_rfl) (fun _ _ _ h => h) (Or.inl ⟨by rfl, ?_⟩) (by assumption) ?_
  rotate_left
  · intro y hSw
    have q0 : y.cell? ⟨q, k, none⟩ = some (.int .u32 v) := hSw
    go_simp
    try with_reducible rfl
  try simp only [Act.put, List.setIfInBounds_toArray, List.set_cons_zero, List.set_cons_succ]
  refine wpAnyH_take (i := 15) (oi := ⟨some 18, .convert 22 5 (.tmp 17), 5, "text.go:32", #[⟨14, .data⟩], none⟩) (v := ?_) rfl (by kernel_rfl) (by kernel_rfl) (by kernel_rfl) (fun _ _ _ h => h) (Or.inl ⟨by rfl, ?_⟩) (by assumption) ?_
  rotate_left
  · intro y hSw
    have q0 : y.cell? ⟨q, k, none⟩ = some (.int .u32 v) := hSw
    go_simp
    try with_reducible rfl
  try simp only [Act.put, List.setIfInBounds_toArray, List.set_cons_zero, List.set_cons_succ]
  refine wpAnyH_take (i := 16) (oi := ⟨some 19, .move (.tmp 0), 159, "text.go:32", #[], none⟩) (v := ?_) rfl (by kernel_rfl) (by kernel_rfl) (by kernel_rfl) (fun _ _ _ h => h) (Or.inl ⟨by rfl, ?_⟩) (by assumption) ?_
  rotate_left
  · intro y hSw
    have q0 : y.cell? ⟨q, k, none⟩ = some (.int .u32 v) := hSw
    go_simp
    try with_reducible rfl
  try simp only [Act.put, List.setIfInBounds_toArray, List.set_cons_zero, List.set_cons_succ]
  refine wpAnyH_take (i := 17) (oi := ⟨some 20, .nilCheck (.tmp 19), 0, "text.go:32", #[⟨16, .data⟩], none⟩) (v := ?_) rfl (by kernel_rfl) (by kernel_rfl) (by kernel_rfl) (fun _ _ _ h => h) (Or.inl ⟨by rfl, ?_⟩) (by assumption) ?_
  rotate_left
  · intro y hSw
    have q0 : y.cell? ⟨q, k, none⟩ = some (.int .u32 v) := hSw
    go_simp
    try with_reducible rfl
  try simp only [Act.put, List.setIfInBounds_toArray, List.set_cons_zero, List.set_cons_succ]
  refine wpAnyH_take (i := 18) (oi := ⟨some 21, .load 22 (.tmp 20), 22, "text.go:32", #[⟨17, .data⟩], none⟩) (v := ?_) rfl (by kernel_rfl) (by kernel_rfl) (by kernel_rfl) (fun _ _ _ h => h) (Or.inl ⟨by rfl, ?_⟩) (by assumption) ?_
  rotate_left
  · intro y hSw
    have q0 : y.cell? ⟨q, k, none⟩ = some (.int .u32 v) := hSw
    go_simp
    try with_reducible rfl
  try simp only [Act.put, List.setIfInBounds_toArray, List.set_cons_zero, List.set_cons_succ]
  refine wpAnyH_take (i := 19) (oi := ⟨some 22, .convert 22 5 (.tmp 21), 5, "text.go:32", #[⟨18, .data⟩], none⟩) (v := ?_) rfl (by kernel_rfl) (by kernel_rfl) (by kernel_rfl) (fun _ _ _ h => h) (Or.inl ⟨by rfl, ?_⟩) (by assumption) ?_
  rotate_left
  · intro y hSw
    have q0 : y.cell? ⟨q, k, none⟩ = some (.int .u32 v) := hSw
    go_simp
    try with_reducible rfl
  try simp only [Act.put, List.setIfInBounds_toArray, List.set_cons_zero, List.set_cons_succ]
  refine wpAnyH_ready (rs := [0, 20]) (by kernel_rfl) (by simp) ?_
  refine AllReadyH.cons (o := ⟨some 3, .load 56 (.tmp 1), 56, "text.go:32", #[], none⟩) rfl (fun K hK => ?_) ?_
  · go_simp
    refine hK.out _ _ (hHeld) (fun hHeld => ?_)
    clear hK K
    try simp only [Act.put, List.setIfInBounds_toArray, List.set_cons_zero, List.set_cons_succ]
    refine wpAnyH_ready (rs := [20]) (by kernel_rfl) (by simp) ?_
    refine AllReadyH.cons (o := ⟨some 23, .buildSlice 56 4 #[(0, .tmp 8), (1, .tmp 13), (2, .tmp 18), (3, .tmp 22)], 56, "text.go:32", #[⟨5, .data⟩, ⟨10, .data⟩, ⟨15, .data⟩, ⟨19, .data⟩], none⟩) rfl (fun K hK => ?_) AllReadyH.nil
    go_simp
    refine hK.out _ _ (h7) (fun hHeld => ?_)
    clear hK K
    try simp only [Act.put, List.setIfInBounds_toArray, List.set_cons_zero, List.set_cons_succ]
    refine wpAnyH_ready (rs := [21]) (by kernel_rfl) (by simp) ?_
    refine AllReadyH.cons (o := ⟨some 24, .call { callee := .builtin Builtin.append, args := #[.tmp 3, .tmp 23], argTypes := #[56, 56] }, 56, "text.go:32", #[⟨0, .data⟩, ⟨20, .data⟩], none⟩) rfl (fun K hK => ?_) AllReadyH.nil
    refine Tm.step_append_told (by with_reducible rfl) (.tmp 3) (.tmp 23) 56 (by with_reducible rfl) (.slice (some ⟨g, 0, none⟩) n 252) (.slice (some ⟨x.heap.size, 0, none⟩) 4 4) _ (by rfl) (by rfl) h3 ?_
    refine hK.out _ _ (h8) (fun hHeld => ?_)
    clear hK K
    try simp only [Act.put, List.setIfInBounds_toArray, List.set_cons_zero, List.set_cons_succ]
    refine wpAnyH_ready (rs := [22]) (by kernel_rfl) (by simp) ?_
    refine AllReadyH.cons (o := ⟨none, .store 56 (.tmp 1) (.tmp 24), 0, "text.go:32", #[⟨21, .data⟩, ⟨21, .chain⟩, ⟨0, .phase⟩, ⟨1, .phase⟩, ⟨2, .phase⟩, ⟨3, .phase⟩, ⟨4, .phase⟩, ⟨5, .phase⟩, ⟨6, .phase⟩, ⟨7, .phase⟩, ⟨8, .phase⟩, ⟨9, .phase⟩, ⟨10, .phase⟩, ⟨11, .phase⟩, ⟨12, .phase⟩, ⟨13, .phase⟩, ⟨14, .phase⟩, ⟨15, .phase⟩, ⟨16, .phase⟩, ⟨17, .phase⟩, ⟨18, .phase⟩, ⟨19, .phase⟩, ⟨20, .phase⟩, ⟨21, .phase⟩], none⟩) rfl (fun K hK => ?_) AllReadyH.nil
    go_simp
    refine hK.out _ _ (h9) (fun hHeld => ?_)
    clear hK K
    try simp only [Act.put, List.setIfInBounds_toArray, List.set_cons_zero, List.set_cons_succ]
    refine wpAnyH_done (by kernel_rfl) ?_ _
    go_wp2
    go_end0
    exact ⟨rfl, fin.out.1, fin.out.2.1, fin.out.2.2⟩
  refine AllReadyH.cons (o := ⟨some 23, .buildSlice 56 4 #[(0, .tmp 8), (1, .tmp 13), (2, .tmp 18), (3, .tmp 22)], 56, "text.go:32", #[⟨5, .data⟩, ⟨10, .data⟩, ⟨15, .data⟩, ⟨19, .data⟩], none⟩) rfl (fun K hK => ?_) AllReadyH.nil
  go_simp
  refine hK.out _ _ (h7) (fun hHeld => ?_)
  clear hK K
  try simp only [Act.put, List.setIfInBounds_toArray, List.set_cons_zero, List.set_cons_succ]
  refine wpAnyH_ready (rs := [0]) (by kernel_rfl) (by simp) ?_
  refine AllReadyH.cons (o := ⟨some 3, .load 56 (.tmp 1), 56, "text.go:32", #[], none⟩) rfl (fun K hK => ?_) AllReadyH.nil
  go_simp
  refine hK.out _ _ (hHeld) (fun hHeld => ?_)
  clear hK K
  try simp only [Act.put, List.setIfInBounds_toArray, List.set_cons_zero, List.set_cons_succ]
  refine wpAnyH_ready (rs := [21]) (by kernel_rfl) (by simp) ?_
  refine AllReadyH.cons (o := ⟨some 24, .call { callee := .builtin Builtin.append, args := #[.tmp 3, .tmp 23], argTypes := #[56, 56] }, 56, "text.go:32", #[⟨0, .data⟩, ⟨20, .data⟩], none⟩) rfl (fun K hK => ?_) AllReadyH.nil
  refine Tm.step_append_told (by with_reducible rfl) (.tmp 3) (.tmp 23) 56 (by with_reducible rfl) (.slice (some ⟨g, 0, none⟩) n 252) (.slice (some ⟨x.heap.size, 0, none⟩) 4 4) _ (by rfl) (by rfl) h3 ?_
  refine hK.out _ _ (h8) (fun hHeld => ?_)
  clear hK K
  try simp only [Act.put, List.setIfInBounds_toArray, List.set_cons_zero, List.set_cons_succ]
  refine wpAnyH_ready (rs := [22]) (by kernel_rfl) (by simp) ?_
  refine AllReadyH.cons (o := ⟨none, .store 56 (.tmp 1) (.tmp 24), 0, "text.go:32", #[⟨21, .data⟩, ⟨21, .chain⟩, ⟨0, .phase⟩, ⟨1, .phase⟩, ⟨2, .phase⟩, ⟨3, .phase⟩, ⟨4, .phase⟩, ⟨5, .phase⟩, ⟨6, .phase⟩, ⟨7, .phase⟩, ⟨8, .phase⟩, ⟨9, .phase⟩, ⟨10, .phase⟩, ⟨11, .phase⟩, ⟨12, .phase⟩, ⟨13, .phase⟩, ⟨14, .phase⟩, ⟨15, .phase⟩, ⟨16, .phase⟩, ⟨17, .phase⟩, ⟨18, .phase⟩, ⟨19, .phase⟩, ⟨20, .phase⟩, ⟨21, .phase⟩], none⟩) rfl (fun K hK => ?_) AllReadyH.nil
  go_simp
  refine hK.out _ _ (h9) (fun hHeld => ?_)
  clear hK K
  try simp only [Act.put, List.setIfInBounds_toArray, List.set_cons_zero, List.set_cons_succ]
  refine wpAnyH_done (by kernel_rfl) ?_ _
  go_wp2
  go_end0
  exact ⟨rfl, fin.out.1, fin.out.2.1, fin.out.2.2⟩

theorem flagC_any {y : Bool} {x : World} {b g n q k pw : Nat} {c : Array Value} (h : BufC x b g n c) (hn : n + 4 ≤ 252) (hc : c.size = 252) (hq : x.cell? ⟨q, k, none⟩ = some (.bool y))
    (hp : x.cell? ⟨pw, 0, none⟩ = some (.func (.func 100) #[] #[.pointer (some ⟨b, 0, none⟩)])) (hl : pw < x.heap.size) :
    Calls Tryz.prog 101 #[.pointer (some ⟨q, k, none⟩), .pointer (some ⟨pw, 0, none⟩)] x fun e w' => e = .returned (.tuple #[]) ∧ BufC w' b g (n + 4) (Tm.spliced c n (Tm.quad (oneN y))) ∧
      (∀ k, k < x.heap.size → k ≠ b → k ≠ g → w'.heap[k]? = x.heap[k]?) ∧ x.heap.size ≤ w'.heap.size ∧ (∀ N W, Below N W x → N ≤ g → Below N W w') := by
  have hp' : (x.alloc (.cells #[.int .u32 (oneN y)] 22)).cell? ⟨pw, 0, none⟩ = some (.func (.func 100) #[] #[.pointer (some ⟨b, 0, none⟩)]) := by
    rw [World.cell?_alloc_past _ _ _ hl, hp]
  have hq' : (x.alloc (.cells #[.int .u32 (oneN y)] 22)).cell? ⟨x.heap.size, 0, none⟩ = some (.int .u32 (oneN y)) := World.cell?_alloc_new _ _ _ _
  have hb : BufC (x.alloc (.cells #[.int .u32 (oneN y)] 22)) b g n c :=
    ⟨by rw [World.cell?_alloc_past _ _ _ h.lt, h.box], by rw [World.frozen?_alloc_past _ _ _ h.lt, h.free], by rw [heap_alloc_old x _ (Nat.lt_trans h.ne h.lt), h.row], h.ne, by have := h.lt; simp; omega⟩
  have hlt := h.lt
  have hne := h.ne
  clear h
  go_enter Tryz.func101, Tryz.ntmps101
  go_wp2_with fail
  refine (oneIf_any _ _).mono ?_
  rintro e w' ⟨rfl, rfl⟩
  go_wp2_with fail
  refine (putC_any (by cases y <;> exact ⟨by decide, by decide⟩) hb hn hc hq' (by omega) (by omega)).mono ?_
  rintro e w1 ⟨rfl, hB, ho, hs, hk⟩
  go_wp2_with fail
  go_end0
  refine ⟨rfl, hB, fun k h1 h2 h3 => ?_, ?_, fun N W h1 h2 => hk N W (h1.alloc (by omega) _) h2⟩
  · rw [ho k (by simp; omega) h2 h3, heap_alloc_old _ _ h1]
  · simp at hs; omega

end Go.Proofs.YthjcijlabpinkaaGreatDoor

/- Layer 13: the program's Text of a state. -/
namespace Go.Proofs.YthjcijlabpinkaaGreatDoor
open Go.RowKit
set_option linter.unusedVariables false
set_option maxRecDepth 100000
set_option linter.unusedSimpArgs false

def wordV : Value → Int
  | .int _ x => x
  | .bool b => oneN b
  | _ => 0

def wordsC (c : Cs) : List Int := (cellsC c).toList.map wordV

def bytesW (l : List Int) : List Int := l.flatMap fun v => [v / 16777216, v / 65536 % 256, v / 256 % 256, v % 256]

def textC (c : Cs) : ByteArray := strOfNums (bytesW (wordsC c))

theorem bytesW_length (l : List Int) : (bytesW l).length = 4 * l.length := by
  induction l with
  | nil => rfl
  | cons a l ih => simp only [bytesW, List.flatMap_cons, List.length_append, List.length_cons, List.length_nil] at *; omega

theorem bytesW_snoc (l : List Int) (v : Int) : bytesW (l ++ [v]) = bytesW l ++ [v / 16777216, v / 65536 % 256, v / 256 % 256, v % 256] := by
  simp [bytesW]

def rowT (l : List Int) : Array Value := ((bytesW l).map (Value.int .u8) ++ List.replicate (252 - 4 * l.length) (Value.int .u8 0)).toArray

theorem rowT_size (l : List Int) (h : l.length ≤ 63) : (rowT l).size = 252 := by
  simp [rowT, bytesW_length]
  omega

theorem rowT_put (l : List Int) (v : Int) (h : l.length < 63) (n : Nat) (hn : n = 4 * l.length) : Tm.spliced (rowT l) n (Tm.quad v) = rowT (l ++ [v]) := by
  have e : ((bytesW l).map (Value.int .u8)).length = n := by simp [bytesW_length, hn]
  unfold Tm.spliced rowT
  simp only [List.toArray_inj]
  rw [List.take_left' e, show n + (Tm.quad v).length = ((bytesW l).map (Value.int .u8)).length + 4 by rw [e]; rfl, List.drop_append, List.drop_eq_nil_of_le (by omega), bytesW_snoc]
  simp only [List.map_append, List.length_append, List.length_cons, List.length_nil, List.append_assoc, List.nil_append, Nat.add_sub_cancel_left, List.drop_replicate]
  rw [show 252 - 4 * l.length - 4 = 252 - 4 * (l.length + (0 + 1)) by omega]
  rfl

theorem wordsC_length (c : Cs) : (wordsC c).length = 63 := rfl

theorem cell_word {c : Cs} (hc : Wc c) (j : Nat) (h : j < 63) (h2 : ¬ j = 2) (h3 : ¬ j = 37) : ∃ v, (cellsC c)[j]? = some (.int .u32 v) ∧ Cp.W32 v ∧ (wordsC c)[j]? = some v :=
  match j, h, h2, h3 with
  | 0, _, _, _ => ⟨_, rfl, hc.pc, rfl⟩
  | 1, _, _, _ => ⟨_, rfl, hc.nx, rfl⟩
  | 2, _, h2, h3 => absurd rfl h2
  | 3, _, _, _ => ⟨_, rfl, hc.R 0, rfl⟩
  | 4, _, _, _ => ⟨_, rfl, hc.R 1, rfl⟩
  | 5, _, _, _ => ⟨_, rfl, hc.R 2, rfl⟩
  | 6, _, _, _ => ⟨_, rfl, hc.R 3, rfl⟩
  | 7, _, _, _ => ⟨_, rfl, hc.R 4, rfl⟩
  | 8, _, _, _ => ⟨_, rfl, hc.R 5, rfl⟩
  | 9, _, _, _ => ⟨_, rfl, hc.R 6, rfl⟩
  | 10, _, _, _ => ⟨_, rfl, hc.R 7, rfl⟩
  | 11, _, _, _ => ⟨_, rfl, hc.R 8, rfl⟩
  | 12, _, _, _ => ⟨_, rfl, hc.R 9, rfl⟩
  | 13, _, _, _ => ⟨_, rfl, hc.R 10, rfl⟩
  | 14, _, _, _ => ⟨_, rfl, hc.R 11, rfl⟩
  | 15, _, _, _ => ⟨_, rfl, hc.R 12, rfl⟩
  | 16, _, _, _ => ⟨_, rfl, hc.R 13, rfl⟩
  | 17, _, _, _ => ⟨_, rfl, hc.R 14, rfl⟩
  | 18, _, _, _ => ⟨_, rfl, hc.R 15, rfl⟩
  | 19, _, _, _ => ⟨_, rfl, hc.R 16, rfl⟩
  | 20, _, _, _ => ⟨_, rfl, hc.R 17, rfl⟩
  | 21, _, _, _ => ⟨_, rfl, hc.R 18, rfl⟩
  | 22, _, _, _ => ⟨_, rfl, hc.R 19, rfl⟩
  | 23, _, _, _ => ⟨_, rfl, hc.R 20, rfl⟩
  | 24, _, _, _ => ⟨_, rfl, hc.R 21, rfl⟩
  | 25, _, _, _ => ⟨_, rfl, hc.R 22, rfl⟩
  | 26, _, _, _ => ⟨_, rfl, hc.R 23, rfl⟩
  | 27, _, _, _ => ⟨_, rfl, hc.R 24, rfl⟩
  | 28, _, _, _ => ⟨_, rfl, hc.R 25, rfl⟩
  | 29, _, _, _ => ⟨_, rfl, hc.R 26, rfl⟩
  | 30, _, _, _ => ⟨_, rfl, hc.R 27, rfl⟩
  | 31, _, _, _ => ⟨_, rfl, hc.R 28, rfl⟩
  | 32, _, _, _ => ⟨_, rfl, hc.R 29, rfl⟩
  | 33, _, _, _ => ⟨_, rfl, hc.R 30, rfl⟩
  | 34, _, _, _ => ⟨_, rfl, hc.R 31, rfl⟩
  | 35, _, _, _ => ⟨_, rfl, hc.hi, rfl⟩
  | 36, _, _, _ => ⟨_, rfl, hc.lo, rfl⟩
  | 37, _, h2, h3 => absurd rfl h3
  | 38, _, _, _ => ⟨_, rfl, hc.C.i, rfl⟩
  | 39, _, _, _ => ⟨_, rfl, hc.C.l, rfl⟩
  | 40, _, _, _ => ⟨_, rfl, hc.C.b, rfl⟩
  | 41, _, _, _ => ⟨_, rfl, hc.C.n, rfl⟩
  | 42, _, _, _ => ⟨_, rfl, hc.C.h, rfl⟩
  | 43, _, _, _ => ⟨_, rfl, hc.C.p, rfl⟩
  | 44, _, _, _ => ⟨_, rfl, hc.C.s, rfl⟩
  | 45, _, _, _ => ⟨_, rfl, hc.C.c, rfl⟩
  | 46, _, _, _ => ⟨_, rfl, hc.C.e, rfl⟩
  | 47, _, _, _ => ⟨_, rfl, hc.T 0, rfl⟩
  | 48, _, _, _ => ⟨_, rfl, hc.T 1, rfl⟩
  | 49, _, _, _ => ⟨_, rfl, hc.T 2, rfl⟩
  | 50, _, _, _ => ⟨_, rfl, hc.T 3, rfl⟩
  | 51, _, _, _ => ⟨_, rfl, hc.T 4, rfl⟩
  | 52, _, _, _ => ⟨_, rfl, hc.T 5, rfl⟩
  | 53, _, _, _ => ⟨_, rfl, hc.T 6, rfl⟩
  | 54, _, _, _ => ⟨_, rfl, hc.T 7, rfl⟩
  | 55, _, _, _ => ⟨_, rfl, hc.T 8, rfl⟩
  | 56, _, _, _ => ⟨_, rfl, hc.T 9, rfl⟩
  | 57, _, _, _ => ⟨_, rfl, hc.T 10, rfl⟩
  | 58, _, _, _ => ⟨_, rfl, hc.T 11, rfl⟩
  | 59, _, _, _ => ⟨_, rfl, hc.T 12, rfl⟩
  | 60, _, _, _ => ⟨_, rfl, hc.T 13, rfl⟩
  | 61, _, _, _ => ⟨_, rfl, hc.T 14, rfl⟩
  | 62, _, _, _ => ⟨_, rfl, hc.T 15, rfl⟩
  | n + 63, h, _, _ => absurd h (by omega)

theorem cell_flag (c : Cs) (j : Nat) (h : j = 2 ∨ j = 37) : ∃ y, (cellsC c)[j]? = some (.bool y) ∧ (wordsC c)[j]? = some (oneN y) := by
  rcases h with rfl | rfl
  · exact ⟨_, rfl, rfl⟩
  · exact ⟨_, rfl, rfl⟩

theorem take_word (c : Cs) (j : Nat) (v : Int) (h : (wordsC c)[j]? = some v) : (wordsC c).take (j + 1) = (wordsC c).take j ++ [v] := by
  rw [List.take_add_one, h]; rfl

structure TextI (w : World) (cb pb g pw : Nat) (c : Cs) (j : Nat) (x : World) : Prop where
  st : Box x cb (cellsC c)
  buf : BufC x pb g (4 * j) (rowT ((wordsC c).take j))
  wd : x.cell? ⟨pw, 0, none⟩ = some (.func (.func 100) #[] #[.pointer (some ⟨pb, 0, none⟩)])
  lt : pw < x.heap.size
  c1 : cb ≠ pb
  c2 : cb ≠ g
  p1 : pw ≠ pb
  p2 : pw ≠ g
  le : w.heap.size ≤ g
  bl : Below w.heap.size w x

theorem TextI.drew {w : World} {cb pb g pw : Nat} {c : Cs} {j : Nat} {x : World} (h : TextI w cb pb g pw c j x) : TextI w cb pb g pw c j x.drew :=
  ⟨h.st.drew, ⟨h.buf.box, h.buf.free, h.buf.row, h.buf.ne, h.buf.lt⟩, h.wd, h.lt, h.c1, h.c2, h.p1, h.p2, h.le, h.bl.drew⟩

theorem TextI.next {w : World} {cb pb g pw : Nat} {c : Cs} {j : Nat} {x y : World} (h : TextI w cb pb g pw c j x) (hj : j < 63) (v : Int) (hv : (wordsC c)[j]? = some v)
    (hB : BufC y pb g (4 * j + 4) (Tm.spliced (rowT ((wordsC c).take j)) (4 * j) (Tm.quad v))) (ho : ∀ k, k < x.heap.size → k ≠ pb → k ≠ g → y.heap[k]? = x.heap[k]?) (hs : x.heap.size ≤ y.heap.size)
    (hk : ∀ N W, Below N W x → N ≤ g → Below N W y) : TextI w cb pb g pw c (j + 1) y := by
  have hl : ((wordsC c).take j).length = j := by rw [List.length_take, wordsC_length]; omega
  rw [rowT_put _ _ (by omega) _ (by rw [hl]), ← take_word c j v hv] at hB
  refine ⟨h.st.of_heap (ho _ h.st.2.2 h.c1 h.c2), by rw [show 4 * (j + 1) = 4 * j + 4 by omega]; exact hB, by rw [cell_heap (ho _ h.lt h.p1 h.p2)]; exact h.wd, by have := h.lt; omega, h.c1, h.c2, h.p1, h.p2, h.le, hk _ _ h.bl h.le⟩

theorem TextI.word {w : World} {cb pb g pw : Nat} {c : Cs} (hc : Wc c) {j : Nat} {x : World} (h : TextI w cb pb g pw c j x) (hj : j < 63) (h2 : ¬ j = 2) (h3 : ¬ j = 37) :
    Calls Tryz.prog 100 #[.pointer (some ⟨cb, j, none⟩), .pointer (some ⟨pb, 0, none⟩)] x fun r x' => r = .returned (.tuple #[]) ∧ TextI w cb pb g pw c (j + 1) x' := by
  obtain ⟨v, e1, e2, e3⟩ := cell_word hc j hj h2 h3
  have hl : ((wordsC c).take j).length = j := by rw [List.length_take, wordsC_length]; omega
  refine (putC_any e2 h.buf (by omega) (rowT_size _ (by omega)) (by rw [h.st.cell]; exact e1) h.c1 h.c2).mono ?_
  rintro e w1 ⟨rfl, hB, ho, hs, hk⟩
  exact ⟨rfl, h.next hj v e3 hB ho hs hk⟩

theorem TextI.flag {w : World} {cb pb g pw : Nat} {c : Cs} {j : Nat} {x : World} (h : TextI w cb pb g pw c j x) (hj : j = 2 ∨ j = 37) :
    Calls Tryz.prog 101 #[.pointer (some ⟨cb, j, none⟩), .pointer (some ⟨pw, 0, none⟩)] x fun r x' => r = .returned (.tuple #[]) ∧ TextI w cb pb g pw c (j + 1) x' := by
  obtain ⟨y, e1, e3⟩ := cell_flag c j hj
  have hj' : j < 63 := by omega
  have hl : ((wordsC c).take j).length = j := by rw [List.length_take, wordsC_length]; omega
  refine (flagC_any (y := y) h.buf (by omega) (rowT_size _ (by omega)) (by rw [h.st.cell]; exact e1) h.wd h.lt).mono ?_
  rintro e w1 ⟨rfl, hB, ho, hs, hk⟩
  exact ⟨rfl, h.next hj' _ e3 hB ho hs hk⟩

theorem conv_listC {g : Nat} {w : World} {ns : List Int} (hn : ns.length = 252) (h : w.heap[g]? = some (.cells (ns.map (Value.int .u8)).toArray 5 (0, 0))) :
    (convert 56 9 (.slice (some ⟨g, 0, none⟩) 252 252)).run Tryz.prog w = .ok (.string (strOfNums ns)) w := by
  refine run_convert_bytes_arg w 56 5 Tryz.underlying56 Tryz.underlying5 g 0 252 252 ns hn ?_ 9 Tryz.underlying9
  intro i hi
  rw [Nat.zero_add, cell_of_row w g i _ _ _ h]
  simp [List.getD, show i < ns.length by omega]

theorem TextI.conv {w : World} {cb pb g pw : Nat} {c : Cs} {x : World} (h : TextI w cb pb g pw c 63 x) :
    (convert 56 9 (.slice (some ⟨g, 0, none⟩) 252 252)).run Tryz.prog x = .ok (.string (textC c)) x := by
  have hr := h.buf.row
  rw [List.take_of_length_le (by rw [wordsC_length]; omega)] at hr
  refine conv_listC (by rw [bytesW_length, wordsC_length]) ?_
  rw [hr]
  simp [rowT, wordsC_length]

def row252 : Array Value := rowT []

theorem TextI.start (w : World) {cb : Nat} {c : Cs} (h : Box w cb (cellsC c)) :
    TextI w cb (w.heap.size + 1) w.heap.size (w.heap.size + 1 + 1) c 0 (((w.alloc (.cells row252 5)).alloc (.cells #[.slice (some ⟨w.heap.size, 0, none⟩) 0 252] 56)).alloc (.cells #[.func (.func 100) #[] #[.pointer (some ⟨w.heap.size + 1, 0, none⟩)]] 160)) := by
  have e1 : (w.alloc (.cells row252 5)).heap.size = w.heap.size + 1 := by simp
  have e2 : ((w.alloc (.cells row252 5)).alloc (.cells #[.slice (some ⟨w.heap.size, 0, none⟩) 0 252] 56)).heap.size = w.heap.size + 1 + 1 := by simp
  have hl := h.2.2
  refine ⟨((h.on (grow _ _)).on (grow _ _)).on (grow _ _), ⟨?_, ?_, ?_, by omega, by simp⟩, ?_, by simp, by omega, by omega, by omega, by omega, by omega, ((grow w _).alloc (by omega) _).alloc (by omega) _⟩
  · rw [World.cell?_alloc_past _ _ _ (by show w.heap.size + 1 < _; omega), ← e1, World.cell?_alloc_new]; try rfl
  · rw [World.frozen?_alloc_past _ _ _ (by show w.heap.size + 1 < _; omega), ← e1, World.frozen?_alloc_new]
  · rw [heap_alloc_old _ _ (by omega), heap_alloc_old _ _ (by omega), heap_alloc_new]; try rfl
  · rw [← e2, World.cell?_alloc_new]; try rfl

theorem text_anyC {c : Cs} (hc : Wc c) {cb : Nat} (w : World) (h : Box w cb (cellsC c)) :
    Calls Tryz.prog 31 #[.pointer (some ⟨cb, 0, none⟩)] w fun e w' => e = .returned (.string (textC c)) ∧ Below w.heap.size w w' := by
  have hmk : ∀ w : World, (Instr.makeSlice 56 (.int .i64 0) (.int .i64 252)).run Tryz.prog w = .ok (.slice (some ⟨w.heap.size, 0, none⟩) 0 252) (w.alloc (.cells row252 5)) := fun _ => by kernel_rfl
  replace h := hide h
  go_enter Tryz.func31, Tryz.ntmps31
  go_wp2_with fail
  refine (each_text cb (w.heap.size + 1) (w.heap.size + 1 + 1) (TextI w cb (w.heap.size + 1) w.heap.size (w.heap.size + 1 + 1) c) (fun j x h1 h2 h3 h => h.word hc h1 h2 h3) (fun j x h1 h => h.flag h1) (fun j x h => h.drew) _ (TextI.start w h.out)).mono ?_
  rintro r w1 ⟨rfl, hI⟩
  have hb : w1.cell? ⟨w.heap.size + 1, 0, none⟩ = some (.slice (some ⟨w.heap.size, 0, none⟩) 252 252) := hI.buf.box
  have hcv := hI.conv
  have hbl := hide hI.bl
  clear hI hmk h
  go_wp2
  go_ret
  exact ⟨rfl, hbl.out⟩

end Go.Proofs.YthjcijlabpinkaaGreatDoor

/- Layer 13: contracts of the closures of the program's Parse. -/
namespace Go.Proofs.YthjcijlabpinkaaGreatDoor
open Go.RowKit
set_option linter.unusedVariables false
set_option maxRecDepth 100000
set_option linter.unusedSimpArgs false

def numS (s : ByteArray) (n : Nat) : Int := (numOf (byteAt s) n 4 : Nat)

theorem numS_w (s : ByteArray) (n : Nat) : Cp.W32 (numS s n) := by
  have := Dm.num_lt s n
  unfold numS
  exact ⟨by omega, by omega⟩

set_option maxHeartbeats 2000000 in
theorem takeC_any {s : ByteArray} (hs : s.size = 252) {x : World} {q k ps pa n : Nat} {v : Int} (hn : n + 4 ≤ 252) (h1 : x.cell? ⟨ps, 0, none⟩ = some (.string s)) (h2 : x.cell? ⟨pa, 0, none⟩ = some (.int .i64 n))
    (h3 : x.frozen? ⟨pa, 0, none⟩ = false) (h4 : x.cell? ⟨q, k, none⟩ = some (.int .u32 v)) (h5 : x.frozen? ⟨q, k, none⟩ = false) (hne : q ≠ pa) (hnp : q ≠ ps) :
    Calls Tryz.prog 96 #[.pointer (some ⟨q, k, none⟩), .pointer (some ⟨ps, 0, none⟩), .pointer (some ⟨pa, 0, none⟩)] x fun e w' => e = .returned (.tuple #[]) ∧
      w' = ((x.setCell ⟨q, k, none⟩ (.int .u32 (numS s n))).drew).setCell ⟨pa, 0, none⟩ (.int .i64 ((n : Int) + 4)) := by
  have d1 : x.drew.cell? ⟨ps, 0, none⟩ = some (.string s) := h1
  have d2 : x.drew.cell? ⟨pa, 0, none⟩ = some (.int .i64 n) := h2
  have d3 : x.drew.frozen? ⟨pa, 0, none⟩ = false := h3
  have d4 : x.drew.cell? ⟨q, k, none⟩ = some (.int .u32 v) := h4
  have d5 : x.drew.frozen? ⟨q, k, none⟩ = false := h5
  have e1 : ∀ z, (x.drew.setCell ⟨q, k, none⟩ z).cell? ⟨ps, 0, none⟩ = some (.string s) := fun z => by
    rw [World.cell?_setCell_other _ _ _ _ (by intro c; injection c with c1; exact hnp c1)]; exact h1
  have e2 : ∀ z, (x.drew.setCell ⟨q, k, none⟩ z).cell? ⟨pa, 0, none⟩ = some (.int .i64 n) := fun z => by
    rw [World.cell?_setCell_other _ _ _ _ (by intro c; injection c with c1; exact hne c1)]; exact h2
  have e3 : ∀ z, (x.drew.setCell ⟨q, k, none⟩ z).frozen? ⟨pa, 0, none⟩ = false := fun z => by rw [World.frozen?_setCell]; exact h3
  have i0 : n < s.size := by omega
  have i1 : n + 1 < s.size := by omega
  have i2 : n + 2 < s.size := by omega
  have i3 : n + 3 < s.size := by omega
  have b0 := s[n].toNat_lt
  have b1 := s[n + 1].toNat_lt
  have b2 := s[n + 2].toNat_lt
  have b3 := s[n + 3].toNat_lt
  obtain ⟨X, Y, o1, o2, o3⟩ := Dm.ors s[n].toNat s[n + 1].toNat s[n + 2].toNat s[n + 3].toNat b0 b1 b2 b3
  have hN : ((Dm.be s[n].toNat s[n + 1].toNat s[n + 2].toNat s[n + 3].toNat : Nat) : Int) = numS s n := by
    unfold numS
    rw [Dm.num4, ← byteAt_in, ← byteAt_in, ← byteAt_in, ← byteAt_in]
  rw [hN] at o3
  clear hN h1 h2 h3 h4 h5
  generalize numS s n = N at *
  have l0 : (n : Int) < 252 := by omega
  have l1 : (n : Int) + 1 < 252 := by omega
  have l2 : (n : Int) + 2 < 252 := by omega
  have l3 : (n : Int) + 3 < 252 := by omega
  have g1 : (0 : Int) ≤ (n : Int) + 1 := by omega
  have g2 : (0 : Int) ≤ (n : Int) + 2 := by omega
  have g3 : (0 : Int) ≤ (n : Int) + 3 := by omega
  have t1 : ((n : Int) + 1).toNat = n + 1 := by omega
  have t2 : ((n : Int) + 2).toNat = n + 2 := by omega
  have t3 : ((n : Int) + 3).toNat = n + 3 := by omega
  have wi1 : IntKind.i64.wrap ((n : Int) + 1) = (n : Int) + 1 := by rw [IntKind.wrap_i64]; omega
  have wi2 : IntKind.i64.wrap ((n : Int) + 2) = (n : Int) + 2 := by rw [IntKind.wrap_i64]; omega
  have wi3 : IntKind.i64.wrap ((n : Int) + 3) = (n : Int) + 3 := by rw [IntKind.wrap_i64]; omega
  have wi4 : IntKind.i64.wrap ((n : Int) + 4) = (n : Int) + 4 := by rw [IntKind.wrap_i64]; omega
  have wu0 : IntKind.u32.wrap ((s[n].toNat : Nat) : Int) = ((s[n].toNat : Nat) : Int) := by rw [IntKind.wrap_u32]; omega
  have wm0 : IntKind.u32.wrap (((s[n].toNat : Nat) : Int) * 16777216) = ((s[n].toNat : Nat) : Int) * 16777216 := by rw [IntKind.wrap_u32]; omega
  have wu1 : IntKind.u32.wrap ((s[n + 1].toNat : Nat) : Int) = ((s[n + 1].toNat : Nat) : Int) := by rw [IntKind.wrap_u32]; omega
  have wm1 : IntKind.u32.wrap (((s[n + 1].toNat : Nat) : Int) * 65536) = ((s[n + 1].toNat : Nat) : Int) * 65536 := by rw [IntKind.wrap_u32]; omega
  have wu2 : IntKind.u32.wrap ((s[n + 2].toNat : Nat) : Int) = ((s[n + 2].toNat : Nat) : Int) := by rw [IntKind.wrap_u32]; omega
  have wm2 : IntKind.u32.wrap (((s[n + 2].toNat : Nat) : Int) * 256) = ((s[n + 2].toNat : Nat) : Int) * 256 := by rw [IntKind.wrap_u32]; omega
  have wu3 : IntKind.u32.wrap ((s[n + 3].toNat : Nat) : Int) = ((s[n + 3].toNat : Nat) : Int) := by rw [IntKind.wrap_u32]; omega
  go_enter Tryz.func96, Tryz.ntmps96
  go_wp2
  refine wp_region_held_drew (S := fun z => z.cell? ⟨ps, 0, none⟩ = some (.string s) ∧ z.cell? ⟨pa, 0, none⟩ = some (.int .i64 n)) (by kernel_rfl) ⟨d1, d2⟩ (fun hHeld => ?_)
  refine wpAnyH_take (i := 0) (oi := ⟨some 4, .move (.tmp 0), 159, "text.go:48", #[], none⟩) (v := ?_) rfl (by kernel_rfl) (by kernel_rfl) (by kernel_rfl) (fun _ _ _ h => h) (Or.inl ⟨by rfl, ?_⟩) (by assumption) ?_
  rotate_left
  · intro y hSw
    have q0 : y.cell? ⟨ps, 0, none⟩ = some (.string s) := hSw.1; have q1 : y.cell? ⟨pa, 0, none⟩ = some (.int .i64 n) := hSw.2
    go_simp
    try with_reducible rfl
  try simp only [Act.put, List.setIfInBounds_toArray, List.set_cons_zero, List.set_cons_succ]
  refine wpAnyH_take (i := 1) (oi := ⟨some 5, .load 9 (.tmp 1), 9, "text.go:48", #[], none⟩) (v := ?_) rfl (by kernel_rfl) (by kernel_rfl) (by kernel_rfl) (fun _ _ _ h => h) (Or.inl ⟨by rfl, ?_⟩) (by assumption) ?_
  rotate_left
  · intro y hSw
    have q0 : y.cell? ⟨ps, 0, none⟩ = some (.string s) := hSw.1; have q1 : y.cell? ⟨pa, 0, none⟩ = some (.int .i64 n) := hSw.2
    go_simp
    try with_reducible rfl
  try simp only [Act.put, List.setIfInBounds_toArray, List.set_cons_zero, List.set_cons_succ]
  refine wpAnyH_take (i := 2) (oi := ⟨some 6, .load 3 (.tmp 2), 3, "text.go:48", #[], none⟩) (v := ?_) rfl (by kernel_rfl) (by kernel_rfl) (by kernel_rfl) (fun _ _ _ h => h) (Or.inl ⟨by rfl, ?_⟩) (by assumption) ?_
  rotate_left
  · intro y hSw
    have q0 : y.cell? ⟨ps, 0, none⟩ = some (.string s) := hSw.1; have q1 : y.cell? ⟨pa, 0, none⟩ = some (.int .i64 n) := hSw.2
    go_simp
    try with_reducible rfl
  try simp only [Act.put, List.setIfInBounds_toArray, List.set_cons_zero, List.set_cons_succ]
  refine wpAnyH_take (i := 3) (oi := ⟨some 7, .index 9 (.tmp 5) (.tmp 6), 5, "text.go:48", #[⟨1, .data⟩, ⟨2, .data⟩], none⟩) (v := ?_) rfl (by kernel_rfl) (by kernel_rfl) (by kernel_rfl) (fun _ _ _ h => h) (Or.inl ⟨by rfl, ?_⟩) (by assumption) ?_
  rotate_left
  · intro y hSw
    have q0 : y.cell? ⟨ps, 0, none⟩ = some (.string s) := hSw.1; have q1 : y.cell? ⟨pa, 0, none⟩ = some (.int .i64 n) := hSw.2
    go_simp
    try with_reducible rfl
  try simp only [Act.put, List.setIfInBounds_toArray, List.set_cons_zero, List.set_cons_succ]
  refine wpAnyH_take (i := 4) (oi := ⟨some 8, .convert 5 22 (.tmp 7), 22, "text.go:48", #[⟨3, .data⟩], none⟩) (v := ?_) rfl (by kernel_rfl) (by kernel_rfl) (by kernel_rfl) (fun _ _ _ h => h) (Or.inl ⟨by rfl, ?_⟩) (by assumption) ?_
  rotate_left
  · intro y hSw
    have q0 : y.cell? ⟨ps, 0, none⟩ = some (.string s) := hSw.1; have q1 : y.cell? ⟨pa, 0, none⟩ = some (.int .i64 n) := hSw.2
    go_simp
    try with_reducible rfl
  try simp only [Act.put, List.setIfInBounds_toArray, List.set_cons_zero, List.set_cons_succ]
  refine wpAnyH_take (i := 5) (oi := ⟨some 9, .binOp .shl 22 (.tmp 8) (.const (.int .u64 24)) 89, 22, "text.go:48", #[⟨4, .data⟩], none⟩) (v := ?_) rfl (by kernel_rfl) (by kernel_rfl) (by kernel_rfl) (fun _ _ _ h => h) (Or.inl ⟨by rfl, ?_⟩) (by assumption) ?_
  rotate_left
  · intro y hSw
    have q0 : y.cell? ⟨ps, 0, none⟩ = some (.string s) := hSw.1; have q1 : y.cell? ⟨pa, 0, none⟩ = some (.int .i64 n) := hSw.2
    go_simp
    try with_reducible rfl
  try simp only [Act.put, List.setIfInBounds_toArray, List.set_cons_zero, List.set_cons_succ]
  refine wpAnyH_take (i := 6) (oi := ⟨some 10, .load 9 (.tmp 1), 9, "text.go:48", #[], none⟩) (v := ?_) rfl (by kernel_rfl) (by kernel_rfl) (by kernel_rfl) (fun _ _ _ h => h) (Or.inl ⟨by rfl, ?_⟩) (by assumption) ?_
  rotate_left
  · intro y hSw
    have q0 : y.cell? ⟨ps, 0, none⟩ = some (.string s) := hSw.1; have q1 : y.cell? ⟨pa, 0, none⟩ = some (.int .i64 n) := hSw.2
    go_simp
    try with_reducible rfl
  try simp only [Act.put, List.setIfInBounds_toArray, List.set_cons_zero, List.set_cons_succ]
  refine wpAnyH_take (i := 7) (oi := ⟨some 11, .load 3 (.tmp 2), 3, "text.go:48", #[], none⟩) (v := ?_) rfl (by kernel_rfl) (by kernel_rfl) (by kernel_rfl) (fun _ _ _ h => h) (Or.inl ⟨by rfl, ?_⟩) (by assumption) ?_
  rotate_left
  · intro y hSw
    have q0 : y.cell? ⟨ps, 0, none⟩ = some (.string s) := hSw.1; have q1 : y.cell? ⟨pa, 0, none⟩ = some (.int .i64 n) := hSw.2
    go_simp
    try with_reducible rfl
  try simp only [Act.put, List.setIfInBounds_toArray, List.set_cons_zero, List.set_cons_succ]
  refine wpAnyH_take (i := 8) (oi := ⟨some 12, .binOp .add 3 (.tmp 11) (.const (.int .i64 1)) 3, 3, "text.go:48", #[⟨7, .data⟩], none⟩) (v := ?_) rfl (by kernel_rfl) (by kernel_rfl) (by kernel_rfl) (fun _ _ _ h => h) (Or.inl ⟨by rfl, ?_⟩) (by assumption) ?_
  rotate_left
  · intro y hSw
    have q0 : y.cell? ⟨ps, 0, none⟩ = some (.string s) := hSw.1; have q1 : y.cell? ⟨pa, 0, none⟩ = some (.int .i64 n) := hSw.2
    go_simp
    try with_reducible rfl
  try simp only [Act.put, List.setIfInBounds_toArray, List.set_cons_zero, List.set_cons_succ]
  refine wpAnyH_take (i := 9) (oi := ⟨some 13, .index 9 (.tmp 10) (.tmp 12), 5, "text.go:48", #[⟨6, .data⟩, ⟨8, .data⟩], none⟩) (v := ?_) rfl (by kernel_rfl) (by kernel_rfl) (by kernel_rfl) (fun _ _ _ h => h) (Or.inl ⟨by rfl, ?_⟩) (by assumption) ?_
  rotate_left
  · intro y hSw
    have q0 : y.cell? ⟨ps, 0, none⟩ = some (.string s) := hSw.1; have q1 : y.cell? ⟨pa, 0, none⟩ = some (.int .i64 n) := hSw.2
    go_simp
    try with_reducible rfl
  try simp only [Act.put, List.setIfInBounds_toArray, List.set_cons_zero, List.set_cons_succ]
  refine wpAnyH_take (i := 10) (oi := ⟨some 14, .convert 5 22 (.tmp 13), 22, "text.go:48", #[⟨9, .data⟩], none⟩) (v := ?_) rfl (by kernel_rfl) (by kernel_rfl) (by kernel_rfl) (fun _ _ _ h => h) (Or.inl ⟨by rfl, ?_⟩) (by assumption) ?_
  rotate_left
  · intro y hSw
    have q0 : y.cell? ⟨ps, 0, none⟩ = some (.string s) := hSw.1; have q1 : y.cell? ⟨pa, 0, none⟩ = some (.int .i64 n) := hSw.2
    go_simp
    try with_reducible rfl
  try simp only [Act.put, List.setIfInBounds_toArray, List.set_cons_zero, List.set_cons_succ]
  refine wpAnyH_take (i := 11) (oi := ⟨some 15, .binOp .shl 22 (.tmp 14) (.const (.int .u64 16)) 89, 22, "text.go:48", #[⟨10, .data⟩], none⟩) (v := ?_) rfl (by kernel_rfl) (by kernel_rfl) (by kernel_rfl) (fun _ _ _ h => h) (Or.inl ⟨by rfl, ?_⟩) (by assumption) ?_
  rotate_left
  · intro y hSw
    have q0 : y.cell? ⟨ps, 0, none⟩ = some (.string s) := hSw.1; have q1 : y.cell? ⟨pa, 0, none⟩ = some (.int .i64 n) := hSw.2
    go_simp
    try with_reducible rfl
  try simp only [Act.put, List.setIfInBounds_toArray, List.set_cons_zero, List.set_cons_succ]
  refine wpAnyH_take (i := 12) (oi := ⟨some 16, .binOp .or 22 (.tmp 9) (.tmp 15) 22, 22, "text.go:48", #[⟨5, .data⟩, ⟨11, .data⟩], none⟩) (v := ?_) rfl (by kernel_rfl) (by kernel_rfl) (by kernel_rfl) (fun _ _ _ h => h) (Or.inl ⟨by rfl, ?_⟩) (by assumption) ?_
  rotate_left
  · intro y hSw
    have q0 : y.cell? ⟨ps, 0, none⟩ = some (.string s) := hSw.1; have q1 : y.cell? ⟨pa, 0, none⟩ = some (.int .i64 n) := hSw.2
    go_simp
    try with_reducible rfl
  try simp only [Act.put, List.setIfInBounds_toArray, List.set_cons_zero, List.set_cons_succ]
  refine wpAnyH_take (i := 13) (oi := ⟨some 17, .load 9 (.tmp 1), 9, "text.go:48", #[], none⟩) (v := ?_) rfl (by kernel_rfl) (by kernel_rfl) (by kernel_rfl) (fun _ _ _ h => h) (Or.inl ⟨by rfl, ?_⟩) (by assumption) ?_
  rotate_left
  · intro y hSw
    have q0 : y.cell? ⟨ps, 0, none⟩ = some (.string s) := hSw.1; have q1 : y.cell? ⟨pa, 0, none⟩ = some (.int .i64 n) := hSw.2
    go_simp
    try with_reducible rfl
  try simp only [Act.put, List.setIfInBounds_toArray, List.set_cons_zero, List.set_cons_succ]
  refine wpAnyH_take (i := 14) (oi := ⟨some 18, .load 3 (.tmp 2), 3, "text.go:48", #[], none⟩) (v := ?_) rfl (by kernel_rfl) (by kernel_rfl) (by kernel_rfl) (fun _ _ _ h => h) (Or.inl ⟨by rfl, ?_⟩) (by assumption) ?_
  rotate_left
  · intro y hSw
    have q0 : y.cell? ⟨ps, 0, none⟩ = some (.string s) := hSw.1; have q1 : y.cell? ⟨pa, 0, none⟩ = some (.int .i64 n) := hSw.2
    go_simp
    try with_reducible rfl
  try simp only [Act.put, List.setIfInBounds_toArray, List.set_cons_zero, List.set_cons_succ]
  refine wpAnyH_take (i := 15) (oi := ⟨some 19, .binOp .add 3 (.tmp 18) (.const (.int .i64 2)) 3, 3, "text.go:48", #[⟨14, .data⟩], none⟩) (v := ?_) rfl (by kernel_rfl) (by kernel_rfl) (by kernel_rfl) (fun _ _ _ h => h) (Or.inl ⟨by rfl, ?_⟩) (by assumption) ?_
  rotate_left
  · intro y hSw
    have q0 : y.cell? ⟨ps, 0, none⟩ = some (.string s) := hSw.1; have q1 : y.cell? ⟨pa, 0, none⟩ = some (.int .i64 n) := hSw.2
    go_simp
    try with_reducible rfl
  try simp only [Act.put, List.setIfInBounds_toArray, List.set_cons_zero, List.set_cons_succ]
  refine wpAnyH_take (i := 16) (oi := ⟨some 20, .index 9 (.tmp 17) (.tmp 19), 5, "text.go:48", #[⟨13, .data⟩, ⟨15, .data⟩], none⟩) (v := ?_) rfl (by kernel_rfl) (by kernel_rfl) (by kernel_rfl) (fun _ _ _ h => h) (Or.inl ⟨by rfl, ?_⟩) (by assumption) ?_
  rotate_left
  · intro y hSw
    have q0 : y.cell? ⟨ps, 0, none⟩ = some (.string s) := hSw.1; have q1 : y.cell? ⟨pa, 0, none⟩ = some (.int .i64 n) := hSw.2
    go_simp
    try with_reducible rfl
  try simp only [Act.put, List.setIfInBounds_toArray, List.set_cons_zero, List.set_cons_succ]
  refine wpAnyH_take (i := 17) (oi := ⟨some 21, .convert 5 22 (.tmp 20), 22, "text.go:48", #[⟨16, .data⟩], none⟩) (v := ?_) rfl (by kernel_rfl) (by kernel_rfl) (by kernel_rfl) (fun _ _ _ h => h) (Or.inl ⟨by rfl, ?_⟩) (by assumption) ?_
  rotate_left
  · intro y hSw
    have q0 : y.cell? ⟨ps, 0, none⟩ = some (.string s) := hSw.1; have q1 : y.cell? ⟨pa, 0, none⟩ = some (.int .i64 n) := hSw.2
    go_simp
    try with_reducible rfl
  try simp only [Act.put, List.setIfInBounds_toArray, List.set_cons_zero, List.set_cons_succ]
  refine wpAnyH_take (i := 18) (oi := ⟨some 22, .binOp .shl 22 (.tmp 21) (.const (.int .u64 8)) 89, 22, "text.go:48", #[⟨17, .data⟩], none⟩) (v := ?_) rfl (by kernel_rfl) (by kernel_rfl) (by kernel_rfl) (fun _ _ _ h => h) (Or.inl ⟨by rfl, ?_⟩) (by assumption) ?_
  rotate_left
  · intro y hSw
    have q0 : y.cell? ⟨ps, 0, none⟩ = some (.string s) := hSw.1; have q1 : y.cell? ⟨pa, 0, none⟩ = some (.int .i64 n) := hSw.2
    go_simp
    try with_reducible rfl
  try simp only [Act.put, List.setIfInBounds_toArray, List.set_cons_zero, List.set_cons_succ]
  refine wpAnyH_take (i := 19) (oi := ⟨some 23, .binOp .or 22 (.tmp 16) (.tmp 22) 22, 22, "text.go:48", #[⟨12, .data⟩, ⟨18, .data⟩], none⟩) (v := ?_) rfl (by kernel_rfl) (by kernel_rfl) (by kernel_rfl) (fun _ _ _ h => h) (Or.inl ⟨by rfl, ?_⟩) (by assumption) ?_
  rotate_left
  · intro y hSw
    have q0 : y.cell? ⟨ps, 0, none⟩ = some (.string s) := hSw.1; have q1 : y.cell? ⟨pa, 0, none⟩ = some (.int .i64 n) := hSw.2
    go_simp
    try with_reducible rfl
  try simp only [Act.put, List.setIfInBounds_toArray, List.set_cons_zero, List.set_cons_succ]
  refine wpAnyH_take (i := 20) (oi := ⟨some 24, .load 9 (.tmp 1), 9, "text.go:48", #[], none⟩) (v := ?_) rfl (by kernel_rfl) (by kernel_rfl) (by kernel_rfl) (fun _ _ _ h => h) (Or.inl ⟨by rfl, ?_⟩) (by assumption) ?_
  rotate_left
  · intro y hSw
    have q0 : y.cell? ⟨ps, 0, none⟩ = some (.string s) := hSw.1; have q1 : y.cell? ⟨pa, 0, none⟩ = some (.int .i64 n) := hSw.2
    go_simp
    try with_reducible rfl
  try simp only [Act.put, List.setIfInBounds_toArray, List.set_cons_zero, List.set_cons_succ]
  refine wpAnyH_take (i := 21) (oi := ⟨some 25, .load 3 (.tmp 2), 3, "text.go:48", #[], none⟩) (v := ?_) rfl (by kernel_rfl) (by kernel_rfl) (by kernel_rfl) (fun _ _ _ h => h) (Or.inl ⟨by rfl, ?_⟩) (by assumption) ?_
  rotate_left
  · intro y hSw
    have q0 : y.cell? ⟨ps, 0, none⟩ = some (.string s) := hSw.1; have q1 : y.cell? ⟨pa, 0, none⟩ = some (.int .i64 n) := hSw.2
    go_simp
    try with_reducible rfl
  try simp only [Act.put, List.setIfInBounds_toArray, List.set_cons_zero, List.set_cons_succ]
  refine wpAnyH_take (i := 22) (oi := ⟨some 26, .binOp .add 3 (.tmp 25) (.const (.int .i64 3)) 3, 3, "text.go:48", #[⟨21, .data⟩], none⟩) (v := ?_) rfl (by kernel_rfl) (by kernel_rfl) (by kernel_rfl) (fun _ _ _ h => h) (Or.inl ⟨by rfl, ?_⟩) (by assumption) ?_
  rotate_left
  · intro y hSw
    have q0 : y.cell? ⟨ps, 0, none⟩ = some (.string s) := hSw.1; have q1 : y.cell? ⟨pa, 0, none⟩ = some (.int .i64 n) := hSw.2
    go_simp
    try with_reducible rfl
  try simp only [Act.put, List.setIfInBounds_toArray, List.set_cons_zero, List.set_cons_succ]
  refine wpAnyH_take (i := 23) (oi := ⟨some 27, .index 9 (.tmp 24) (.tmp 26), 5, "text.go:48", #[⟨20, .data⟩, ⟨22, .data⟩], none⟩) (v := ?_) rfl (by kernel_rfl) (by kernel_rfl) (by kernel_rfl) (fun _ _ _ h => h) (Or.inl ⟨by rfl, ?_⟩) (by assumption) ?_
  rotate_left
  · intro y hSw
    have q0 : y.cell? ⟨ps, 0, none⟩ = some (.string s) := hSw.1; have q1 : y.cell? ⟨pa, 0, none⟩ = some (.int .i64 n) := hSw.2
    go_simp
    try with_reducible rfl
  try simp only [Act.put, List.setIfInBounds_toArray, List.set_cons_zero, List.set_cons_succ]
  refine wpAnyH_take (i := 24) (oi := ⟨some 28, .convert 5 22 (.tmp 27), 22, "text.go:48", #[⟨23, .data⟩], none⟩) (v := ?_) rfl (by kernel_rfl) (by kernel_rfl) (by kernel_rfl) (fun _ _ _ h => h) (Or.inl ⟨by rfl, ?_⟩) (by assumption) ?_
  rotate_left
  · intro y hSw
    have q0 : y.cell? ⟨ps, 0, none⟩ = some (.string s) := hSw.1; have q1 : y.cell? ⟨pa, 0, none⟩ = some (.int .i64 n) := hSw.2
    go_simp
    try with_reducible rfl
  try simp only [Act.put, List.setIfInBounds_toArray, List.set_cons_zero, List.set_cons_succ]
  refine wpAnyH_take (i := 25) (oi := ⟨some 29, .binOp .or 22 (.tmp 23) (.tmp 28) 22, 22, "text.go:48", #[⟨19, .data⟩, ⟨24, .data⟩], none⟩) (v := ?_) rfl (by kernel_rfl) (by kernel_rfl) (by kernel_rfl) (fun _ _ _ h => h) (Or.inl ⟨by rfl, ?_⟩) (by assumption) ?_
  rotate_left
  · intro y hSw
    have q0 : y.cell? ⟨ps, 0, none⟩ = some (.string s) := hSw.1; have q1 : y.cell? ⟨pa, 0, none⟩ = some (.int .i64 n) := hSw.2
    go_simp
    try with_reducible rfl
  try simp only [Act.put, List.setIfInBounds_toArray, List.set_cons_zero, List.set_cons_succ]
  refine wpAnyH_take (i := 26) (oi := ⟨some 30, .nilCheck (.tmp 4), 0, "text.go:48", #[⟨0, .data⟩, ⟨0, .phase⟩, ⟨1, .phase⟩, ⟨2, .phase⟩, ⟨3, .phase⟩, ⟨4, .phase⟩, ⟨5, .phase⟩, ⟨6, .phase⟩, ⟨7, .phase⟩, ⟨8, .phase⟩, ⟨9, .phase⟩, ⟨10, .phase⟩, ⟨11, .phase⟩, ⟨12, .phase⟩, ⟨13, .phase⟩, ⟨14, .phase⟩, ⟨15, .phase⟩, ⟨16, .phase⟩, ⟨17, .phase⟩, ⟨18, .phase⟩, ⟨19, .phase⟩, ⟨20, .phase⟩, ⟨21, .phase⟩, ⟨22, .phase⟩, ⟨23, .phase⟩, ⟨24, .phase⟩, ⟨25, .phase⟩], none⟩) (v := ?_) rfl (by kernel_rfl) (by kernel_rfl) (by kernel_rfl) (fun _ _ _ h => h) (Or.inl ⟨by rfl, ?_⟩) (by assumption) ?_
  rotate_left
  · intro y hSw
    have q0 : y.cell? ⟨ps, 0, none⟩ = some (.string s) := hSw.1; have q1 : y.cell? ⟨pa, 0, none⟩ = some (.int .i64 n) := hSw.2
    go_simp
    try with_reducible rfl
  try simp only [Act.put, List.setIfInBounds_toArray, List.set_cons_zero, List.set_cons_succ]
  refine wpAnyH_ready (rs := [27]) (by kernel_rfl) (by simp) ?_
  refine AllReadyH.cons (o := ⟨none, .store 22 (.tmp 30) (.tmp 29), 0, "text.go:48", #[⟨26, .data⟩, ⟨25, .data⟩, ⟨0, .phase⟩, ⟨1, .phase⟩, ⟨2, .phase⟩, ⟨3, .phase⟩, ⟨4, .phase⟩, ⟨5, .phase⟩, ⟨6, .phase⟩, ⟨7, .phase⟩, ⟨8, .phase⟩, ⟨9, .phase⟩, ⟨10, .phase⟩, ⟨11, .phase⟩, ⟨12, .phase⟩, ⟨13, .phase⟩, ⟨14, .phase⟩, ⟨15, .phase⟩, ⟨16, .phase⟩, ⟨17, .phase⟩, ⟨18, .phase⟩, ⟨19, .phase⟩, ⟨20, .phase⟩, ⟨21, .phase⟩, ⟨22, .phase⟩, ⟨23, .phase⟩, ⟨24, .phase⟩, ⟨25, .phase⟩], none⟩) rfl (fun K hK => ?_) AllReadyH.nil
  go_simp
  refine hK.out _ _ (⟨e1 _, e2 _⟩) (fun hHeld => ?_)
  clear hK K
  try simp only [Act.put, List.setIfInBounds_toArray, List.set_cons_zero, List.set_cons_succ]
  refine wpAnyH_done (by kernel_rfl) ?_ _
  have f2 : ((x.setCell ⟨q, k, none⟩ (.int .u32 N)).drew).cell? ⟨pa, 0, none⟩ = some (.int .i64 n) := e2 (.int .u32 N)
  have f3 : ((x.setCell ⟨q, k, none⟩ (.int .u32 N)).drew).frozen? ⟨pa, 0, none⟩ = false := e3 (.int .u32 N)
  clear e1 e2 e3 hHeld
  generalize hx2 : (x.setCell ⟨q, k, none⟩ (.int .u32 N)).drew = x2 at f2 f3 ⊢
  replace hx2 := hide hx2
  go_wp2
  go_end0
  exact ⟨rfl, by rw [hx2.out]⟩

end Go.Proofs.YthjcijlabpinkaaGreatDoor

/- Layer 13: the closure of the program's Parse that takes a truth. -/
namespace Go.Proofs.YthjcijlabpinkaaGreatDoor
open Go.RowKit
set_option linter.unusedVariables false
set_option maxRecDepth 100000
set_option linter.unusedSimpArgs false

theorem Box.one {x : World} {b : Nat} {v : Value} (h : Box x b #[v]) (u : Value) : Box (x.setCell ⟨b, 0, none⟩ u) b #[u] := by
  rw [setCell_row b x 0 u h.1, h.2.1]
  exact h.set _

theorem Box.at_ {x : World} {b k : Nat} {c : Array Value} (h : Box x b c) (u : Value) : Box (x.setCell ⟨b, k, none⟩ u) b (c.setIfInBounds k u) := by
  rw [setCell_row b x k u h.1, h.2.1]
  exact h.set _

theorem Box.apart {x : World} {b : Nat} {c : Array Value} (h : Box x b c) (g k : Nat) (u : Value) (hg : b ≠ g) : Box (x.setCell ⟨g, k, none⟩ u) b c :=
  h.of_heap (Below.heap_setCell _ _ _ b (by show b ≠ g; exact hg))

theorem truthC_any {s : ByteArray} (hs : s.size = 252) {x : World} {q k ps pa pw po n : Nat} {c : Array Value} {t ok : Bool} (hn : n + 4 ≤ 252) (B1 : Box x ps #[.string s]) (B2 : Box x pa #[.int .i64 n])
    (B3 : Box x pw #[.func (.func 96) #[] #[.pointer (some ⟨ps, 0, none⟩), .pointer (some ⟨pa, 0, none⟩)]]) (B4 : Box x po #[.bool ok]) (B5 : Box x q c) (h5 : c[k]? = some (.bool t))
    (n1 : q ≠ pa) (n2 : q ≠ po) (n3 : pa ≠ po) :
    Calls Tryz.prog 97 #[.pointer (some ⟨q, k, none⟩), .pointer (some ⟨pw, 0, none⟩), .pointer (some ⟨po, 0, none⟩)] x fun e w' => e = .returned (.tuple #[]) ∧
      Box w' q (c.setIfInBounds k (.bool (numS s n == 1))) ∧ Box w' pa #[.int .i64 ((n : Int) + 4)] ∧ Box w' po #[.bool (ok && decide (numS s n ≤ 1))] ∧ Kept [q, pa, po] x w' := by
  obtain ⟨N, hN⟩ : ∃ N, numS s n = N := ⟨_, rfl⟩
  have W := numS_w s n
  rw [hN] at W ⊢
  have l1 := B1.2.2
  have l2 := B2.2.2
  have l3 := B3.2.2
  have l4 := B4.2.2
  have l5 := B5.2.2
  have C0 := Box.new x #[.int .u32 0] 22
  have C1 := B1.on (grow x (.cells #[.int .u32 0] 22))
  have C2 := B2.on (grow x (.cells #[.int .u32 0] 22))
  have C3 := B3.on (grow x (.cells #[.int .u32 0] 22))
  have C4 := B4.on (grow x (.cells #[.int .u32 0] 22))
  have C5 := B5.on (grow x (.cells #[.int .u32 0] 22))
  have K0 : Kept [q, pa, po] x (x.alloc (.cells #[.int .u32 0] 22)) := Kept.of (grow x _)
  have z0 : (x.alloc (.cells #[.int .u32 0] 22)).heap.size = x.heap.size + 1 := by simp
  have r3 := C3.cell 0
  clear B1 B2 B3 B4 B5
  go_enter Tryz.func97, Tryz.ntmps97
  go_wp2_with fail
  refine (takeC_any hs hn (C1.cell 0) (C2.cell 0) (C2.free 0) (C0.cell 0) (C0.free 0) (by omega) (by omega)).mono ?_
  rintro e w1 ⟨rfl, hw1⟩
  rw [hN] at hw1
  have D0 : Box w1 x.heap.size #[.int .u32 N] := by rw [hw1]; exact (C0.one _).drew.apart _ _ _ (by omega)
  have D2 : Box w1 pa #[.int .i64 ((n : Int) + 4)] := by rw [hw1]; exact (C2.apart _ _ _ (by omega)).drew.one _
  have D4 : Box w1 po #[.bool ok] := by rw [hw1]; exact (C4.apart _ _ _ (by omega)).drew.apart _ _ _ (by omega)
  have D5 : Box w1 q c := by rw [hw1]; exact (C5.apart _ _ _ (by omega)).drew.apart _ _ _ (by omega)
  have K1 : Kept [q, pa, po] x w1 := by
    rw [hw1]
    exact (Kept.of (Below.drew (Below.setCell (p := ⟨x.heap.size, 0, none⟩) (grow x (.cells #[.int .u32 0] 22)) (Nat.le_refl _) _))).trans (Kept.cell _ pa 0 _ (by simp))
  clear hw1 C0 C1 C2 C3 C4 C5 K0 r3 z0
  obtain ⟨v0, v1⟩ := W
  have a0 : w1.cell? ⟨x.heap.size, 0, none⟩ = some (.int .u32 N) := D0.cell 0
  have a1 : w1.cell? ⟨q, k, none⟩ = some (.bool t) := by rw [D5.cell]; exact h5
  have a2 := D5.free k
  have g0 : ∀ z, (w1.setCell ⟨q, k, none⟩ z).cell? ⟨x.heap.size, 0, none⟩ = some (.int .u32 N) := fun z => (D0.apart q k z (by omega)).cell 0
  have g1 : ∀ z, (w1.setCell ⟨q, k, none⟩ z).cell? ⟨po, 0, none⟩ = some (.bool ok) := fun z => (D4.apart q k z (by omega)).cell 0
  have g2 : ∀ z, (w1.setCell ⟨q, k, none⟩ z).frozen? ⟨po, 0, none⟩ = false := fun z => (D4.apart q k z (by omega)).free 0
  have fin := hide (And.intro (fun y : Value => ((D5.at_ (k := k) (.bool (N == 1))).apart po 0 y n2)) (And.intro (fun y : Value => ((D2.apart q k (.bool (N == 1)) (Ne.symm n1)).apart po 0 y n3)) (And.intro (fun y : Value => ((D4.apart q k (.bool (N == 1)) (Ne.symm n2)).one y)) (fun y : Value => (K1.trans (Kept.cell w1 q k (.bool (N == 1)) (by simp))).trans (Kept.cell _ po 0 y (by simp))))))
  clear D0 D2 D4 D5 K1 h5 hN
  cases ok
  · go_wp2_with fail
    go_end0
    exact ⟨rfl, fin.out.1 _, fin.out.2.1 _, fin.out.2.2.1 _, fin.out.2.2.2 _⟩
  · go_wp2_with fail
    go_end0
    exact ⟨rfl, fin.out.1 _, fin.out.2.1 _, fin.out.2.2.1 _, fin.out.2.2.2 _⟩

end Go.Proofs.YthjcijlabpinkaaGreatDoor

/- Layer 13: the program's Parse of a state. -/
namespace Go.Proofs.YthjcijlabpinkaaGreatDoor
open Go.RowKit
set_option linter.unusedVariables false
set_option maxRecDepth 100000
set_option linter.unusedSimpArgs false

def parsedV (s : ByteArray) (j : Nat) : Value := if j = 2 ∨ j = 37 then .bool (numS s (4 * j) == 1) else .int .u32 (numS s (4 * j))

def valsP (s : ByteArray) : List Value := (List.range 63).map (parsedV s)

def rowP (s : ByteArray) (j : Nat) : Array Value := ((valsP s).take j ++ (cellsC CZ).toList.drop j).toArray

theorem valsP_length (s : ByteArray) : (valsP s).length = 63 := by simp [valsP]

theorem zeros_length : (cellsC CZ).toList.length = 63 := rfl

theorem rowP_at (s : ByteArray) (j : Nat) (h : j < 63) : (rowP s j)[j]? = (cellsC CZ)[j]? := by
  have e : ((valsP s).take j).length = j := by rw [List.length_take, valsP_length]; omega
  unfold rowP
  rw [List.getElem?_toArray, List.getElem?_append_right (by omega), e, Nat.sub_self, List.getElem?_drop, Nat.add_zero, Array.getElem?_toList]

theorem rowP_set (s : ByteArray) (j : Nat) (h : j < 63) : (rowP s j).setIfInBounds j (parsedV s j) = rowP s (j + 1) := by
  have e : ((valsP s).take j).length = j := by rw [List.length_take, valsP_length]; omega
  have e1 : (valsP s)[j]? = some (parsedV s j) := by unfold valsP; simp [h]
  have e2 : (cellsC CZ).toList.drop j = (cellsC CZ).toList[j]'(by rw [zeros_length]; exact h) :: (cellsC CZ).toList.drop (j + 1) := List.drop_eq_getElem_cons (by rw [zeros_length]; exact h)
  unfold rowP
  rw [List.setIfInBounds_toArray, e2, List.set_append_right _ _ (by omega), e, Nat.sub_self, List.set_cons_zero, List.take_add_one, e1]
  simp

def csOf (s : ByteArray) : Cs :=
  ⟨numS s 0, numS s 4, numS s 8 == 1, fun k => numS s (4 * (3 + k)), numS s 140, numS s 144, numS s 148 == 1, ⟨numS s 152, numS s 156, numS s 160, numS s 164, numS s 168, numS s 172, numS s 176, numS s 180, numS s 184⟩, fun k => numS s (4 * (47 + k))⟩

theorem rowP_all (s : ByteArray) : rowP s 63 = cellsC (csOf s) := by rfl

def okP (s : ByteArray) (j : Nat) : Bool := (decide (j ≤ 2) || decide (numS s 8 ≤ 1)) && (decide (j ≤ 37) || decide (numS s 148 ≤ 1))

theorem zero_word (j : Nat) (h : j < 63) (h2 : ¬ j = 2) (h3 : ¬ j = 37) : (cellsC CZ)[j]? = some (.int .u32 0) := by
  have a : ∀ j < 63, ¬ j = 2 → ¬ j = 37 → ((cellsC CZ)[j]?.map fun v => match v with | .int .u32 0 => true | _ => false) = some true := by decide +kernel
  have b := a j h h2 h3
  generalize (cellsC CZ)[j]? = o at b
  match o, b with
  | some (.int .u32 0), _ => rfl

structure ParseI (w : World) (cb ps pa pw po : Nat) (s : ByteArray) (j : Nat) (x : World) : Prop where
  st : Box x cb (rowP s j)
  sb : Box x ps #[.string s]
  ab : Box x pa #[.int .i64 ((4 * j : Nat) : Int)]
  wb : Box x pw #[.func (.func 96) #[] #[.pointer (some ⟨ps, 0, none⟩), .pointer (some ⟨pa, 0, none⟩)]]
  ob : Box x po #[.bool (okP s j)]
  ne : cb ≠ ps ∧ cb ≠ pa ∧ cb ≠ pw ∧ cb ≠ po ∧ ps ≠ pa ∧ ps ≠ po ∧ pw ≠ pa ∧ pw ≠ po ∧ pa ≠ po
  le : w.heap.size ≤ cb ∧ w.heap.size ≤ pa ∧ w.heap.size ≤ po
  bl : Below w.heap.size w x

theorem ParseI.drew {w : World} {cb ps pa pw po : Nat} {s : ByteArray} {j : Nat} {x : World} (h : ParseI w cb ps pa pw po s j x) : ParseI w cb ps pa pw po s j x.drew :=
  ⟨h.st.drew, h.sb.drew, h.ab.drew, h.wb.drew, h.ob.drew, h.ne, h.le, h.bl.drew⟩

theorem ParseI.word {w : World} {cb ps pa pw po : Nat} {s : ByteArray} (hs : s.size = 252) {j : Nat} {x : World} (h : ParseI w cb ps pa pw po s j x) (hj : j < 63) (h2 : ¬ j = 2) (h3 : ¬ j = 37) :
    Calls Tryz.prog 96 #[.pointer (some ⟨cb, j, none⟩), .pointer (some ⟨ps, 0, none⟩), .pointer (some ⟨pa, 0, none⟩)] x fun r x' => r = .returned (.tuple #[]) ∧ ParseI w cb ps pa pw po s (j + 1) x' := by
  obtain ⟨n1, n2, n3, n4, n5, n6, n7, n8, n9⟩ := h.ne
  have hz : x.cell? ⟨cb, j, none⟩ = some (.int .u32 0) := by rw [h.st.cell, rowP_at s j hj, zero_word j hj h2 h3]
  refine (takeC_any hs (n := 4 * j) (by omega) (h.sb.cell 0) (h.ab.cell 0) (h.ab.free 0) hz (h.st.free j) n2 n1).mono ?_
  rintro r w1 ⟨rfl, rfl⟩
  have ep : parsedV s j = .int .u32 (numS s (4 * j)) := by unfold parsedV; rw [if_neg (by omega)]
  have eo : okP s (j + 1) = okP s j := by
    unfold okP
    rw [show decide (j + 1 ≤ 2) = decide (j ≤ 2) from decide_eq_decide.2 (by omega), show decide (j + 1 ≤ 37) = decide (j ≤ 37) from decide_eq_decide.2 (by omega)]
  refine ⟨rfl, ?_, ?_, ?_, ?_, ?_, h.ne, h.le, ?_⟩
  · rw [← rowP_set s j hj, ep]
    exact (h.st.at_ _).drew.apart _ _ _ n2
  · exact (h.sb.apart _ _ _ (Ne.symm n1)).drew.apart _ _ _ n5
  · have := (h.ab.apart cb j (.int .u32 (numS s (4 * j))) (Ne.symm n2)).drew.one (.int .i64 (((4 * j : Nat) : Int) + 4))
    rwa [show ((4 * j : Nat) : Int) + 4 = ((4 * (j + 1) : Nat) : Int) by omega] at this ⊢
  · exact (h.wb.apart _ _ _ (Ne.symm n3)).drew.apart _ _ _ n7
  · rw [eo]
    exact (h.ob.apart _ _ _ (Ne.symm n4)).drew.apart _ _ _ (Ne.symm n9)
  · exact Below.setCell (p := ⟨pa, 0, none⟩) (Below.drew (Below.setCell (p := ⟨cb, j, none⟩) h.bl h.le.1 _)) h.le.2.1 _

theorem ParseI.flag {w : World} {cb ps pa pw po : Nat} {s : ByteArray} (hs : s.size = 252) {j : Nat} {x : World} (h : ParseI w cb ps pa pw po s j x) (hj : j = 2 ∨ j = 37) :
    Calls Tryz.prog 97 #[.pointer (some ⟨cb, j, none⟩), .pointer (some ⟨pw, 0, none⟩), .pointer (some ⟨po, 0, none⟩)] x fun r x' => r = .returned (.tuple #[]) ∧ ParseI w cb ps pa pw po s (j + 1) x' := by
  obtain ⟨n1, n2, n3, n4, n5, n6, n7, n8, n9⟩ := h.ne
  have hj' : j < 63 := by omega
  have hz : (rowP s j)[j]? = some (.bool false) := by
    rw [rowP_at s j hj']
    rcases hj with rfl | rfl <;> rfl
  refine (truthC_any hs (n := 4 * j) (by omega) h.sb h.ab h.wb h.ob h.st hz n2 n4 n9).mono ?_
  rintro r w1 ⟨rfl, b1, b2, b3, k1⟩
  have ep : parsedV s j = .bool (numS s (4 * j) == 1) := by unfold parsedV; rw [if_pos hj]
  have eo : okP s (j + 1) = (okP s j && decide (numS s (4 * j) ≤ 1)) := by
    unfold okP
    rcases hj with rfl | rfl
    · simp
    · simp
  refine ⟨rfl, ?_, h.sb.kept k1 (by simp; omega), ?_, h.wb.kept k1 (by simp; omega), by rw [eo]; exact b3, h.ne, h.le, k1.below h.bl (Nat.le_refl _) (by have := h.le; intro i hi; simp at hi; omega)⟩
  · rw [← rowP_set s j hj', ep]
    exact b1
  · rwa [show ((4 * j : Nat) : Int) + 4 = ((4 * (j + 1) : Nat) : Int) by omega] at b2

end Go.Proofs.YthjcijlabpinkaaGreatDoor

/- Layer 13: the program's Parse of a state. -/
namespace Go.Proofs.YthjcijlabpinkaaGreatDoor
open Go.RowKit
set_option linter.unusedVariables false
set_option maxRecDepth 100000
set_option linter.unusedSimpArgs false

theorem parse_longC {s : ByteArray} (hs : ¬ s.size = 252) (hm : s.size ≤ maxLen) (w : World) :
    Calls Tryz.prog 29 #[.string s] w fun e w' => e = .returned (.tuple #[.agg (cellsC CZ), .int .i64 130]) ∧ Below w.heap.size w w' := by
  obtain ⟨z1, z2, z3, z4, z5, z6, z7, z8, z9, z10, z11, z12, z13, z14, z15⟩ := cSizes
  obtain ⟨t1, t2, t3, t4, t5, t6, t7, t8, t9⟩ := rowRules
  obtain ⟨f1, f2, f3, f4, f5, f6, f7, f8, f9⟩ := cWhole
  have hs' : ¬ (s.size : Int) = 252 := by omega
  go_enter Tryz.func29, Tryz.ntmps29
  go_wp2_with fail
  exact bodyPost_ret (v := .tuple #[.agg (cellsC CZ), .int .i64 130]) (by simp [results, Tryz.results29, go_sem, z1, z7, z13, t1, t3, t4, t5, t6, f3, f6, f9]) rfl ⟨rfl, (grow w _).alloc (by simp) _⟩

theorem ParseI.start (w : World) (s : ByteArray) :
    ParseI ((w.alloc (.cells #[.string s] 9)).alloc (.cells (cellsC CZ) 31)) (w.heap.size + 1 + 1 + 1 + 1 + 1) w.heap.size (w.heap.size + 1 + 1) (w.heap.size + 1 + 1 + 1 + 1) (w.heap.size + 1 + 1 + 1) s 0
      ((((((w.alloc (.cells #[.string s] 9)).alloc (.cells (cellsC CZ) 31)).alloc (.cells #[.int .i64 0] 3)).alloc (.cells #[.bool true] 4)).alloc
        (.cells #[.func (.func 96) #[] #[.pointer (some ⟨w.heap.size, 0, none⟩), .pointer (some ⟨w.heap.size + 1 + 1, 0, none⟩)]] 160)).alloc (.cells (cellsC CZ) 31)) := by
  have A0 := Box.new w #[.string s] 9
  have e0 : (w.alloc (.cells #[.string s] 9)).heap.size = w.heap.size + 1 := by simp
  generalize w.alloc (.cells #[.string s] 9) = x0 at *
  have e1 : (x0.alloc (.cells (cellsC CZ) 31)).heap.size = w.heap.size + 1 + 1 := by simp [e0]
  replace A0 := A0.on (grow x0 (.cells (cellsC CZ) 31))
  generalize x0.alloc (.cells (cellsC CZ) 31) = x1 at *
  have A2 := Box.new x1 #[.int .i64 0] 3
  rw [e1] at A2
  have e2 : (x1.alloc (.cells #[.int .i64 0] 3)).heap.size = w.heap.size + 1 + 1 + 1 := by simp [e1]
  replace A0 := A0.on (grow x1 (.cells #[.int .i64 0] 3))
  have L := grow x1 (.cells #[.int .i64 0] 3)
  generalize x1.alloc (.cells #[.int .i64 0] 3) = x2 at *
  have A3 := Box.new x2 #[.bool true] 4
  rw [e2] at A3
  have e3 : (x2.alloc (.cells #[.bool true] 4)).heap.size = w.heap.size + 1 + 1 + 1 + 1 := by simp [e2]
  replace A0 := A0.on (grow x2 (.cells #[.bool true] 4))
  replace A2 := A2.on (grow x2 (.cells #[.bool true] 4))
  replace L := L.alloc (by omega) (.cells #[.bool true] 4)
  generalize x2.alloc (.cells #[.bool true] 4) = x3 at *
  generalize hF : Value.func (.func 96) #[] #[.pointer (some ⟨w.heap.size, 0, none⟩), .pointer (some ⟨w.heap.size + 1 + 1, 0, none⟩)] = F at *
  have A4 := Box.new x3 #[F] 160
  rw [e3] at A4
  have e4 : (x3.alloc (.cells #[F] 160)).heap.size = w.heap.size + 1 + 1 + 1 + 1 + 1 := by simp [e3]
  replace A0 := A0.on (grow x3 (.cells #[F] 160))
  replace A2 := A2.on (grow x3 (.cells #[F] 160))
  replace A3 := A3.on (grow x3 (.cells #[F] 160))
  replace L := L.alloc (by omega) (.cells #[F] 160)
  generalize x3.alloc (.cells #[F] 160) = x4 at *
  have A5 := Box.new x4 (cellsC CZ) 31
  rw [e4] at A5
  have G := grow x4 (.cells (cellsC CZ) 31)
  exact ⟨A5, A0.on G, A2.on G, by rw [hF]; exact A4.on G, A3.on G, by omega, by omega, L.alloc (by omega) _⟩

theorem parse_sizedC {s : ByteArray} (hs : s.size = 252) (w : World) :
    Calls Tryz.prog 29 #[.string s] w fun e w' => e = .returned (if okP s 63 && numS s 12 == 0 then .tuple #[.agg (cellsC (csOf s)), .int .i64 0] else .tuple #[.agg (cellsC CZ), .int .i64 130]) ∧ Below w.heap.size w w' := by
  obtain ⟨ok, hok⟩ : ∃ ok, okP s 63 = ok := ⟨_, rfl⟩
  obtain ⟨N, hN⟩ : ∃ N, numS s 12 = N := ⟨_, rfl⟩
  obtain ⟨C, hC⟩ : ∃ C, csOf s = C := ⟨_, rfl⟩
  have hR : (cellsC C)[3]? = some (.int .u32 N) := by rw [← hC, ← hN]; rfl
  rw [hok, hN, hC]
  obtain ⟨z1, z2, z3, z4, z5, z6, z7, z8, z9, z10, z11, z12, z13, z14, z15⟩ := cSizes
  obtain ⟨t1, t2, t3, t4, t5, t6, t7, t8, t9⟩ := rowRules
  obtain ⟨f1, f2, f3, f4, f5, f6, f7, f8, f9⟩ := cWhole
  go_enter Tryz.func29, Tryz.ntmps29
  go_wp2_with fail
  refine (each_parse (w.heap.size + 1 + 1 + 1 + 1 + 1) w.heap.size (w.heap.size + 1 + 1) (w.heap.size + 1 + 1 + 1 + 1) (w.heap.size + 1 + 1 + 1) (ParseI _ (w.heap.size + 1 + 1 + 1 + 1 + 1) w.heap.size (w.heap.size + 1 + 1) (w.heap.size + 1 + 1 + 1 + 1) (w.heap.size + 1 + 1 + 1) s) (fun j x h1 h2 h3 h => h.word hs h1 h2 h3) (fun j x h1 h => h.flag hs h1) (fun j x h => h.drew) _ (ParseI.start w s)).mono ?_
  rintro r w1 ⟨rfl, hI⟩
  have hst := hI.st
  rw [rowP_all, hC] at hst
  have hob := hI.ob
  rw [hok] at hob
  have hrb : Box w1 (w.heap.size + 1) (cellsC CZ) := by
    have := Box.new (w.alloc (.cells #[.string s] 9)) (cellsC CZ) 31
    rw [show (w.alloc (.cells #[.string s] 9)).heap.size = w.heap.size + 1 by simp] at this
    exact this.of_heap (hI.bl.block _ (by simp))
  have hbl : Below w.heap.size w w1 := ((grow w (.cells #[.string s] 9)).alloc (by simp) (.cells (cellsC CZ) 31)).trans (hI.bl.mono (by simp; omega))
  clear hI hok hN hC
  have a1 : w1.cell? ⟨w.heap.size + 1 + 1 + 1, 0, none⟩ = some (.bool ok) := hob.cell 0
  have a2 : w1.cell? ⟨w.heap.size + 1 + 1 + 1 + 1 + 1, 3, none⟩ = some (.int .u32 N) := by rw [hst.cell]; exact hR
  have fin := hide (fun c : Array Value => below_setRow (g := w.heap.size + 1) hbl (by omega) c)
  replace hbl := hide hbl
  obtain ⟨r1, r2, r3⟩ := hst
  obtain ⟨q1, q2, q3⟩ := hrb
  clear hob hR
  cases ok
  · go_wp2
    exact bodyPost_ret (v := .tuple #[.agg (cellsC CZ), .int .i64 130]) (by simp [results, Tryz.results29, go_sem, z1, z7, z13, t1, t3, f3, f6, f9, q1, q2]) rfl ⟨rfl, fin.out _⟩
  · by_cases hz : N = 0
    · subst hz
      go_wp2
      exact bodyPost_ret (v := .tuple #[.agg (cellsC C), .int .i64 0]) (by simp [results, Tryz.results29, go_sem, z1, z7, z13, t1, t3, f3, f6, f9, q1, q2]) rfl ⟨rfl, fin.out _⟩
    · have hz1 : (N == 0) = false := by simpa using hz
      have hz2 : (N != 0) = true := by simpa using hz
      go_wp2
      all_goals exact bodyPost_ret (v := .tuple #[.agg (cellsC CZ), .int .i64 130]) (by simp [results, Tryz.results29, go_sem, z1, z7, z13, t1, t3, f3, f6, f9, q1, q2]) rfl ⟨by first | rfl | simp [hz], fin.out _⟩

end Go.Proofs.YthjcijlabpinkaaGreatDoor
