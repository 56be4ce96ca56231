/- Layer 16: has a block a byte in some bytes; all places; all go; a new cache. -/
import Derived.Test.YtkmafafmnncgiaaTcCache
namespace Go.Proofs.Ytkmafafmnncgiaa
open Go.RowKit
set_option linter.unusedVariables false
set_option linter.unusedSimpArgs false

/-- Has the block a byte of its words in these bytes? -/
def hitV (x : Blk) (f s : Int) : Bool := decide (max x.pc f < min (x.pc + 4 * x.ws.length) (f + s))

set_option maxHeartbeats 2000000 in
theorem has_any {w : World} {F : Nat → Prop} {v : Value} {x : Blk} (h : BlkAt w F v x) (f s : Int) (hf : W32 f) (hs : W32 s) :
    Calls Try.prog 25 #[v, .int .u32 f, .int .u32 s] w fun e w' => e = .returned (.bool (hitV x f s)) ∧ Below w.heap.size w w' := by
  obtain ⟨v1, v2, v3, rfl, h1, h2, h3, ⟨p0, p1⟩, l1, l2, l3⟩ := h
  obtain ⟨f0, f1⟩ := hf
  obtain ⟨s0, s1⟩ := hs
  obtain ⟨a1, m1, rfl, hm1⟩ := h1.shape
  obtain ⟨n, hn⟩ : ∃ n, n = x.ws.length := ⟨_, rfl⟩
  obtain ⟨pc, hpc⟩ : ∃ pc, pc = x.pc := ⟨_, rfl⟩
  have hv : hitV x f s = decide (max pc f < min (pc + 4 * (n : Int)) (f + s)) := by rw [hn, hpc]; rfl
  rw [hv]
  rw [← hn] at l1 hm1 ⊢
  rw [← hpc] at p0 p1 ⊢
  clear hn hpc hv h1 h2 h3 l2 l3
  go_enter Try.func25, Try.ntmps25
  go_wp2
  go_ret
  exact ⟨rfl, grow _ _⟩

theorem places_any {w : World} {F : Nat → Prop} {cb mb r : Nat} {ov : Value} {E : List (Blk × Value)} (C : CacheAt w F cb mb ov r E) :
    Calls Try.prog 19 #[.pointer (some ⟨cb, 0, none⟩)] w fun e w' => ∃ v', e = .returned v' ∧ Row w' (fun k => w.heap.size ≤ k) 32 1 v' (pcs E).length (ints (pcs E)) ∧ Below w.heap.size w w' := by
  have c2 : w.cell? ⟨cb, 2, none⟩ = some ov := C.box.cell 2
  have hle : (pcs E).length ≤ 1000000 := by rw [pcs_len]; have := C.le; have := C.r64; omega
  have hcall := wclone_any C.ord hle
  replace C := hide C
  clear hle
  go_enter Try.func19, Try.ntmps19
  go_wp2_with fail
  refine hcall.mono ?_
  rintro e w1 ⟨v', rfl, hR, hb⟩
  go_wp2
  go_ret
  exact ⟨_, rfl, hR, hb⟩

theorem flush_any {w : World} {F : Nat → Prop} {cb mb r : Nat} {ov : Value} {E : List (Blk × Value)} (C : CacheAt w F cb mb ov r E) :
    Calls Try.prog 17 #[.pointer (some ⟨cb, 0, none⟩)] w fun e w' => e = .returned (.tuple #[]) ∧ ∃ ov', CacheAt w' F cb mb ov' r [] ∧ Turn F w w' := by
  obtain ⟨w1, hcl, hM, hT⟩ := clear_map C.map
  have c1 : w.cell? ⟨cb, 1, none⟩ = some (.map (some mb)) := C.box.cell 1
  have b1 : Box w1 cb _ := C.box.of_heap (hT.block cb C.box.2.2 (fun e => C.cm e))
  have c2 : w1.cell? ⟨cb, 2, none⟩ = some ov := b1.cell 2
  have f2 : w1.frozen? ⟨cb, 2, none⟩ = false := b1.free 2
  have hord := C.ord.1.2
  have hk : ∀ v k, k < w.heap.size → k ≠ cb → k ≠ mb → (w1.setCell ⟨cb, 2, none⟩ v).heap[k]? = w.heap[k]? := fun v k h1 h2 h3 => by
    rw [Below.heap_setCell w1 _ _ k h2, hT.block k h1 h3]
  have hmm : ∀ v, (w1.setCell ⟨cb, 2, none⟩ v).heap[mb]? = w1.heap[mb]? := fun v => Below.heap_setCell w1 _ _ mb (fun e => C.cm e.symm)
  have hsz : ∀ v, (w1.setCell ⟨cb, 2, none⟩ v).heap.size = w1.heap.size := fun v => by simp [World.setCell]
  have fin : ∀ v, v.ownBlock = ov.ownBlock → Row w F 32 1 v 0 [] → CacheAt (w1.setCell ⟨cb, 2, none⟩ v) F cb mb v r [] ∧ Turn F w (w1.setCell ⟨cb, 2, none⟩ v) := fun v hv hR => by
    refine ⟨{ box := b1.set 2 v, map := hM.keep (hmm v), ord := ?_, fc := C.fc, fm := C.fm, cm := C.cm, co := hv ▸ C.co, mo := hv ▸ C.mo, each := (fun p hp => by cases hp), nodup := List.nodup_nil, r1 := C.r1, r64 := C.r64, le := Nat.zero_le _ }, ?_⟩
    · refine ⟨⟨hR.1.1, ?_⟩, hR.2⟩
      rcases hR.1.2 with hn | ⟨g, cap, cur, he, hb, hgg, rest⟩
      · exact .inl hn
      · refine .inr ⟨g, cap, cur, he, hb, (hk v g (Array.getElem?_eq_some_iff.1 hgg).1 (fun e => C.co ?_) (fun e => C.mo ?_)).trans hgg, rest⟩
        · rw [← hv, he, e]; rfl
        · rw [← hv, he, e]; rfl
    · exact ⟨hT.os, hT.tape, hT.output, by rw [hsz]; exact hT.size, fun k h1 h2 => hk v k h1 (fun e => h2 (e ▸ C.fc)) (fun e => h2 (e ▸ C.fm))⟩
  have hF := C.ord.2
  replace C := hide C
  replace hM := hide hM
  replace hT := hide hT
  replace b1 := hide b1
  replace fin := hide fin
  replace hF := hide hF
  clear hk hmm hsz
  rcases hord with ⟨rfl, -⟩ | ⟨g, cap, cur, rfl, hb, hgg, hc, hmx, hcs, -⟩
  · go_enter Try.func17, Try.ntmps17
    go_wp2
    go_end0
    exact ⟨rfl, _, fin.out _ rfl ⟨World.ownsRow_nil w 0 32 1, fun k hk => by simp [Value.ownBlock] at hk⟩⟩
  · go_enter Try.func17, Try.ntmps17
    go_wp2
    go_end0
    exact ⟨rfl, _, fin.out _ rfl ⟨⟨rfl, .inr ⟨g, cap, cur, rfl, hb, hgg, Nat.zero_le _, hmx, hcs, by simp⟩⟩, hF.out⟩⟩

theorem new_bad (r : Int) (h : r < 1 ∨ 64 < r) (w : World) : Calls Try.prog 7 #[.int .i64 r] w fun e w' => e = .returned (.tuple #[.pointer none, .int .i64 160]) ∧ w' = w := by
  rcases h with h | h
  all_goals
    go_enter Try.func7, Try.ntmps7
    go_wp2
    go_ret2
    exact ⟨rfl, rfl⟩

theorem new_any (r : Nat) (h1 : 1 ≤ r) (h64 : r ≤ 64) (w : World) :
    Calls Try.prog 7 #[.int .i64 r] w fun e w' => ∃ cb mb, e = .returned (.tuple #[.pointer (some ⟨cb, 0, none⟩), .int .i64 0]) ∧ CacheAt w' (fun k => w.heap.size ≤ k) cb mb (.slice none 0 0) r [] ∧ Below w.heap.size w w' := by
  have hmm := @run_makeMap Try.prog
  go_enter Try.func7, Try.ntmps7
  go_wp2
  go_ret2
  obtain ⟨wm, hwm⟩ : ∃ wm, wm = w.alloc (.map #[] 0) := ⟨_, rfl⟩
  have sm : wm.heap.size = w.heap.size + 1 := by rw [hwm]; simp
  have mm : wm.heap[w.heap.size]? = some (.map #[] 0) := by rw [hwm]; exact heap_alloc_new w _
  have gm : Below w.heap.size w wm := by rw [hwm]; exact grow _ _
  rw [← hwm]
  clear hwm
  refine ⟨w.heap.size + 1, w.heap.size, rfl, { box := ?_, map := ⟨#[], 0, ?_, rfl⟩, ord := ⟨World.ownsRow_nil _ 0 _ 1, fun k hk => by simp [Value.ownBlock] at hk⟩, fc := Nat.le_succ _, fm := Nat.le_refl _, cm := by omega, co := by simp [Value.ownBlock], mo := by simp [Value.ownBlock], each := (fun p hp => by cases hp), nodup := List.nodup_nil, r1 := h1, r64 := h64, le := Nat.zero_le _ }, onto gm (Nat.le_refl _) (grow _ _)⟩
  · rw [← sm]
    exact Box.new wm _ _
  · rw [heap_alloc_old wm _ (by omega)]
    exact mm

end Go.Proofs.Ytkmafafmnncgiaa
