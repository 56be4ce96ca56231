/- Layer 16: a cache in memory; the block at a place goes. -/
import Derived.Test.YtkmafafmnncgiaaTcRemove
namespace Go.Proofs.Ytkmafafmnncgiaa
open Go.RowKit Go.Sort
set_option linter.unusedVariables false
set_option linter.unusedSimpArgs false

/-- A row of cells in a block. -/
def Box (w : World) (b : Nat) (c : Array Value) : Prop := isRow w b = true ∧ rowAt w b = c ∧ b < w.heap.size

theorem Box.new (w : World) (c : Array Value) (t : TypeId) : Box (w.alloc (.cells c t)) w.heap.size c := ⟨isRow_new _ _ _, rowAt_new _ _ _, by simp⟩

theorem Box.of_heap {w y : World} {b : Nat} {c : Array Value} (h : Box w b c) (e : y.heap[b]? = w.heap[b]?) : Box y b c := by
  refine ⟨by rw [isRow_of e]; exact h.1, by rw [rowAt_of e]; exact h.2.1, ?_⟩
  obtain ⟨t, ht⟩ := isRow_some h.1
  rw [ht] at e
  exact (Array.getElem?_eq_some_iff.1 e).1

theorem Box.on {w y : World} {b : Nat} {c : Array Value} (h : Box w b c) (hb : Below w.heap.size w y) : Box y b c := h.of_heap (hb.block b h.2.2)

theorem Box.cell {w : World} {b : Nat} {c : Array Value} (h : Box w b c) (j : Nat) : w.cell? ⟨b, j, none⟩ = c[j]? := by rw [cell_rowAt w b j h.1, h.2.1]

theorem Box.free {w : World} {b : Nat} {c : Array Value} (h : Box w b c) (j : Nat) : w.frozen? ⟨b, j, none⟩ = false := frozen_rowAt w b j h.1

/-- A store into one cell of a row, as a row. -/
theorem setCell_row (b : Nat) (w : World) (k : Nat) (v : Value) (h : isRow w b = true) : w.setCell ⟨b, k, none⟩ v = w.setRow b ((rowAt w b).setIfInBounds k v) := by
  obtain ⟨t, e⟩ := isRow_some h
  exact setCell_eq_setRow w b k _ t _ v e

theorem Box.set {w : World} {b : Nat} {c : Array Value} (h : Box w b c) (k : Nat) (v : Value) : Box (w.setCell ⟨b, k, none⟩ v) b (c.setIfInBounds k v) := by
  rw [setCell_row b w k v h.1, h.2.1]
  exact ⟨by rw [isRow_setRow]; exact h.1, rowAt_setRow w b _ h.1, by rw [setRow_size]; exact h.2.2⟩

theorem Box.drew {w : World} {b : Nat} {c : Array Value} (h : Box w b c) : Box w.drew b c := h

/-- The places of blocks; the entries of the map. -/
def pcs (E : List (Blk × Value)) : List Int := E.map fun p => p.1.pc
def kvs (E : List (Blk × Value)) : List (Int × Value) := E.map fun p => (p.1.pc, p.2)
def wout (E : List (Blk × Value)) (pc : Int) : List (Blk × Value) := E.filter fun p => !(p.1.pc == pc)

theorem pcs_wout (E : List (Blk × Value)) (pc : Int) : pcs (wout E pc) = but (pcs E) pc := by
  unfold pcs wout but
  rw [List.filter_map]
  rfl
theorem kvs_wout (E : List (Blk × Value)) (pc : Int) : kvs (wout E pc) = wo (kvs E) pc := by
  unfold kvs wout wo
  rw [List.filter_map]
  rfl
theorem kvs_keys (E : List (Blk × Value)) : (kvs E).map (·.1) = pcs E := by
  unfold kvs pcs
  rw [List.map_map]
  rfl
theorem pcs_len (E : List (Blk × Value)) : (pcs E).length = E.length := by simp [pcs]
theorem pcs_app (E G : List (Blk × Value)) : pcs (E ++ G) = pcs E ++ pcs G := List.map_append
theorem kvs_app (E G : List (Blk × Value)) : kvs (E ++ G) = kvs E ++ kvs G := List.map_append
theorem wout_len (E : List (Blk × Value)) (pc : Int) : (wout E pc).length ≤ E.length := List.length_filter_le _ _
theorem wout_nodup {E : List (Blk × Value)} {pc : Int} (h : (pcs E).Nodup) : (pcs (wout E pc)).Nodup := by
  rw [pcs_wout]
  exact h.filter _
theorem wout_not {E : List (Blk × Value)} {pc : Int} : ∀ p ∈ wout E pc, p.1.pc ≠ pc := fun p hp => by
  have := (List.mem_filter.1 hp).2
  simpa using this

/-- A cache: its own block, the map's, the row of places, the blocks that are kept, the oldest first. -/
structure CacheAt (w : World) (F : Nat → Prop) (cb mb : Nat) (ov : Value) (r : Nat) (E : List (Blk × Value)) : Prop where
  box : Box w cb #[.int .i64 r, .map (some mb), ov]
  map : MapIs w mb (kvs E)
  ord : Row w F 32 1 ov (pcs E).length (ints (pcs E))
  fc : F cb
  fm : F mb
  cm : cb ≠ mb
  co : ov.ownBlock ≠ some cb
  mo : ov.ownBlock ≠ some mb
  each : ∀ p ∈ E, BlkAt w (fun k => F k ∧ k ≠ cb ∧ k ≠ mb ∧ ov.ownBlock ≠ some k) p.2 p.1
  nodup : (pcs E).Nodup
  r1 : 1 ≤ r
  r64 : r ≤ 64
  le : E.length ≤ r

theorem CacheAt.keep {w y : World} {F : Nat → Prop} {cb mb r : Nat} {ov : Value} {E : List (Blk × Value)} (C : CacheAt w F cb mb ov r E)
    (hk : ∀ k, F k → k < w.heap.size → y.heap[k]? = w.heap[k]?) : CacheAt y F cb mb ov r E :=
  { C with box := C.box.of_heap (hk cb C.fc C.box.2.2), map := C.map.keep (hk mb C.fm C.map.lt), ord := C.ord.keep hk, each := fun p hp => (C.each p hp).keep fun k h => hk k h.1 }

theorem CacheAt.on {w y : World} {F : Nat → Prop} {cb mb r : Nat} {ov : Value} {E : List (Blk × Value)} (C : CacheAt w F cb mb ov r E) (hb : Below w.heap.size w y) : CacheAt y F cb mb ov r E :=
  C.keep fun k _ hk => hb.block k hk

theorem Row.shape {w : World} {F : Nat → Prop} {t : TypeId} {size n : Nat} {v : Value} {xs : List Value} (h : Row w F t size v n xs) : ∃ a c, v = .slice a n c ∧ n ≤ c := by
  rcases h.1.2 with ⟨rfl, rfl⟩ | ⟨g, cap, cur, rfl, -, -, hc, -⟩
  · exact ⟨none, 0, rfl, Nat.le_refl _⟩
  · exact ⟨_, _, rfl, hc⟩

theorem row_lt {w : World} {F : Nat → Prop} {t : TypeId} {size n : Nat} {v : Value} {xs : List Value} (h : Row w F t size v n xs) {b : Nat} (hb : w.heap.size ≤ b) : v.ownBlock ≠ some b := fun e => by
  have := (h.1.lt b e).2
  omega

set_option maxHeartbeats 2000000 in
theorem remove_any {w : World} {F : Nat → Prop} {cb mb r : Nat} {ov : Value} {E : List (Blk × Value)} (C : CacheAt w F cb mb ov r E) (pc : Int) :
    Calls Try.prog 21 #[.pointer (some ⟨cb, 0, none⟩), .int .u32 pc] w fun e w' => e = .returned (.tuple #[]) ∧ ∃ ov', CacheAt w' F cb mb ov' r (wout E pc) ∧ Turn F w w' := by
  obtain ⟨wb, hwb⟩ : ∃ wb, wb = w.alloc (.cells #[.int .u32 pc] 32) := ⟨_, rfl⟩
  have G : Below w.heap.size w wb := by rw [hwb]; exact grow _ _
  have CB := C.on G
  have hpc : wb.cell? ⟨w.heap.size, 0, none⟩ = some (.int .u32 pc) := by rw [hwb]; exact (Box.new w _ _).cell 0
  have hbs : w.heap.size < wb.heap.size := by rw [hwb]; simp
  have c1 : wb.cell? ⟨cb, 1, none⟩ = some (.map (some mb)) := CB.box.cell 1
  obtain ⟨wd, hdel, hM, hT⟩ := del_any (w := wb.drew) CB.map pc (by rw [kvs_keys]; exact C.nodup)
  have hTd : Turn (fun k => k = mb) wb wd := ⟨hT.os, hT.tape, hT.output, hT.size, hT.block⟩
  have bd : Box wd cb _ := CB.box.of_heap (hTd.block cb CB.box.2.2 (fun e => C.cm e))
  have c2 : wd.cell? ⟨cb, 2, none⟩ = some ov := bd.cell 2
  have hpd : wd.cell? ⟨w.heap.size, 0, none⟩ = some (.int .u32 pc) := by
    rw [← hpc]
    refine World.cell?_of_block (a := ⟨w.heap.size, 0, none⟩) (hTd.block _ hbs (fun e => ?_))
    have := C.map.lt
    rw [← e] at this
    exact Nat.lt_irrefl _ this
  have hro : Row wd F 32 1 ov (pcs E).length (ints (pcs E)) := by
    refine ⟨⟨CB.ord.1.1, ?_⟩, CB.ord.2⟩
    rcases CB.ord.1.2 with hn | ⟨g, cap, cur, he, hb, hgg, rest⟩
    · exact .inl hn
    · exact .inr ⟨g, cap, cur, he, hb, (hTd.block g (Array.getElem?_eq_some_iff.1 hgg).1 (fun e => C.mo (by rw [he, ← e]; rfl))).trans hgg, rest⟩
  have hle : (pcs E).length ≤ 1000000 := by rw [pcs_len]; have := C.le; have := C.r64; omega
  have hcall := delete_any hro hle pc w.heap.size hpd (row_lt C.ord (Nat.le_refl _))
  have hdv : delV w.heap.size = .func (.func 28) #[] #[.pointer (some ⟨w.heap.size, 0, none⟩)] := rfl
  rw [hdv] at hcall
  replace C := hide C
  replace CB := hide CB
  replace hM := hide hM
  replace hTd := hide hTd
  replace bd := hide bd
  replace G := hide G
  clear hT hpd hro hle hdv
  go_enter Try.func21, Try.ntmps21
  go_wp2_with fail
  rw [← hwb]
  clear hwb
  go_region
  go_wp2_with fail
  refine hcall.mono ?_
  rintro e w1 ⟨v', rfl, hR, hTw, hov⟩
  obtain ⟨a', m', rfl, hm'⟩ := hR.shape
  have b1 : Box w1 cb _ := bd.out.of_heap (hTw.block cb bd.out.2.2 C.out.co)
  have f2 : w1.frozen? ⟨cb, 2, none⟩ = false := b1.free 2
  have s2 : w1.cell? ⟨cb, 2, none⟩ = some ov := b1.cell 2
  have B2 := hide (b1.set 2 (.slice a' (but (pcs E) pc).length m'))
  replace b1 := hide b1
  replace hR := hide hR
  replace hTw := hide hTw
  replace hov := hide hov
  go_wp2
  go_end0
  have hk : ∀ k, k < w.heap.size → k ≠ cb → k ≠ mb → ov.ownBlock ≠ some k → (w1.setCell ⟨cb, 2, none⟩ (.slice a' (but (pcs E) pc).length m')).heap[k]? = w.heap[k]? := fun k h1 h2 h3 h4 => by
    have hb := Nat.lt_of_lt_of_le h1 G.out.size
    rw [Below.heap_setCell w1 _ _ k h2, hTw.out.block k (Nat.lt_of_lt_of_le hb hTd.out.size) h4, hTd.out.block k hb h3, G.out.block k h1]
  have hm : (w1.setCell ⟨cb, 2, none⟩ (.slice a' (but (pcs E) pc).length m')).heap[mb]? = wd.heap[mb]? := by
    rw [Below.heap_setCell w1 _ _ mb (fun e => C.out.cm e.symm), hTw.out.block mb hM.out.lt C.out.mo]
  have hsz : w.heap.size ≤ (w1.setCell ⟨cb, 2, none⟩ (.slice a' (but (pcs E) pc).length m')).heap.size := by
    have h1 := G.out.size
    have h2 := hTd.out.size
    have h3 := hTw.out.size
    have h4 : (w1.setCell ⟨cb, 2, none⟩ (.slice a' (but (pcs E) pc).length m')).heap.size = w1.heap.size := by simp [World.setCell]
    omega
  refine ⟨rfl, .slice a' (but (pcs E) pc).length m', ?_, ?_⟩
  · refine { box := B2.out, map := ?_, ord := ?_, fc := C.out.fc, fm := C.out.fm, cm := C.out.cm, co := hov.out.symm ▸ C.out.co, mo := hov.out.symm ▸ C.out.mo, each := fun p hp => ?_, nodup := wout_nodup C.out.nodup, r1 := C.out.r1, r64 := C.out.r64, le := Nat.le_trans (wout_len E pc) C.out.le }
    · rw [kvs_wout]
      exact hM.out.keep hm
    · rw [pcs_wout]
      refine ⟨⟨hR.out.1.1, ?_⟩, hR.out.2⟩
      rcases hR.out.1.2 with hn | ⟨g, cap, cur, he, hb, hgg, rest⟩
      · exact .inl hn
      · refine .inr ⟨g, cap, cur, he, hb, ?_, rest⟩
        rw [Below.heap_setCell w1 _ _ g (fun e => C.out.co (by rw [← hov.out, he, e]; rfl))]
        exact hgg
    · have hp' : p ∈ E := (List.mem_filter.1 hp).1
      rw [hov.out]
      exact (C.out.each p hp').keep fun k h1 h2 => hk k h2 h1.2.1 h1.2.2.1 h1.2.2.2
  · refine ⟨?_, ?_, ?_, hsz, fun k h1 h2 => hk k h1 (fun e => h2 (e ▸ C.out.fc)) (fun e => h2 (e ▸ C.out.fm)) (fun e => h2 (C.out.ord.2 k e))⟩
    · exact (hTw.out.os.trans hTd.out.os).trans G.out.os
    · exact (hTw.out.tape.trans hTd.out.tape).trans G.out.tape
    · exact (hTw.out.output.trans hTd.out.output).trans G.out.output

end Go.Proofs.Ytkmafafmnncgiaa
