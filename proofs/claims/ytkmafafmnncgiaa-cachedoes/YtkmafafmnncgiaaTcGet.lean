/- Layer 16: the block at a place. -/
import Derived.Test.YtkmafafmnncgiaaTcClone
import Derived.Test.YtkmafafmnncgiaaTcOps
namespace Go.Proofs.Ytkmafafmnncgiaa
open Go.RowKit
set_option linter.unusedVariables false
set_option linter.unusedSimpArgs false

set_option maxHeartbeats 4000000 in
theorem get_core {w : World} {F F' : Nat → Prop} {cb mb r : Nat} {ov : Value} {E : List (Blk × Value)} (C : CacheAt w F cb mb ov r E) (pc : Int) (v : Value) (x : Blk) (b : Bool)
    (hl : ∀ y, MapIs y mb (kvs E) → (Instr.lookup 52 (.map (some mb)) (.int .u32 pc) true).run Try.prog y = .ok (.tuple #[v, .bool b]) y) (hB : BlkAt w F' v x) :
    Calls Try.prog 12 #[.pointer (some ⟨cb, 0, none⟩), .int .u32 pc] w fun e w' => ∃ v', e = .returned (.tuple #[v', .bool b]) ∧ BlkAt w' (fun k => w.heap.size ≤ k) v' x ∧ Below w.heap.size w w' := by
  obtain ⟨w1, hw1⟩ : ∃ w1, w1 = w.alloc (.cells #[.int .u32 0, .slice none 0 0, .slice none 0 0, .slice none 0 0] 38) := ⟨_, rfl⟩
  have G1 : Below w.heap.size w w1 := by rw [hw1]; exact grow _ _
  have sz1 : w1.heap.size = w.heap.size + 1 := by rw [hw1]; simp
  have BZ : Box w1 w.heap.size #[.int .u32 0, .slice none 0 0, .slice none 0 0, .slice none 0 0] := by rw [hw1]; exact Box.new _ _ _
  have c1 : w1.cell? ⟨cb, 1, none⟩ = some (.map (some mb)) := (C.on G1).box.cell 1
  have hl1 := hl w1 (C.on G1).map
  have hB1 := hB.on G1
  have hB0 := hB
  obtain ⟨v1, v2, v3, rfl, h1, h2, h3, hpc, l1, l2, l3⟩ := hB
  obtain ⟨a1, m1, rfl, hm1⟩ := h1.shape
  obtain ⟨a2, m2, rfl, hm2⟩ := h2.shape
  obtain ⟨a3, m3, rfl, hm3⟩ := h3.shape
  obtain ⟨w2, hw2⟩ : ∃ w2, w2 = w1.alloc (.cells #[.int .u32 x.pc, .slice a1 x.ws.length m1, .slice a2 x.os.length m2, .slice a3 x.ps.length m3] 38) := ⟨_, rfl⟩
  have G2 : Below w1.heap.size w1 w2 := by rw [hw2]; exact grow _ _
  have BX : Box w2 w1.heap.size #[.int .u32 x.pc, .slice a1 x.ws.length m1, .slice a2 x.os.length m2, .slice a3 x.ps.length m3] := by rw [hw2]; exact Box.new _ _ _
  have hcl := clone_any (hB1.on G2)
  replace BZ := hide (BZ.on G2)
  replace BX := hide BX
  replace G2 := hide G2
  replace G1 := hide G1
  replace sz1 := hide sz1
  replace hB0 := hide hB0
  clear C hl hB1 h1 h2 h3 hpc
  go_enter Try.func12, Try.ntmps12
  subst hw1
  go_wp2_with fail
  rw [← hw2]
  clear hw2 hl1 c1
  refine hcl.mono ?_
  rintro e w3 ⟨v', rfl, hV, hb⟩
  obtain ⟨u1, u2, u3, rfl, U1, U2, U3, hpc, -⟩ := hV
  obtain ⟨b1, n1, rfl, hn1⟩ := U1.shape
  obtain ⟨b2, n2, rfl, hn2⟩ := U2.shape
  obtain ⟨b3, n3, rfl, hn3⟩ := U3.shape
  have B3 := BZ.out.on hb
  have z0 := B3.cell 0
  have z1 := B3.cell 1
  have z2 := B3.cell 2
  have z3 := B3.cell 3
  have f0 := B3.free 0
  have f1 := B3.free 1
  have f2 := B3.free 2
  have f3 := B3.free 3
  have ht := onto G1.out (Nat.le_refl _) (onto G2.out (Nat.le_refl _) hb)
  have hlt : w.heap.size < w2.heap.size := B3.2.2 |> fun _ => BZ.out.2.2
  replace B3 := hide B3
  replace U1 := hide U1
  replace U2 := hide U2
  replace U3 := hide U3
  replace hpc := hide hpc
  replace ht := hide ht
  replace hlt := hide hlt
  clear hcl hb
  go_wp2
  have hfar : ∀ k, k ≠ w.heap.size → ∀ i1 i2 i3 i4 d1 d2 d3 d4, ((((w3.setCell ⟨w.heap.size, i1, none⟩ d1).setCell ⟨w.heap.size, i2, none⟩ d2).setCell ⟨w.heap.size, i3, none⟩ d3).setCell ⟨w.heap.size, i4, none⟩ d4).heap[k]? = w3.heap[k]? := fun k hk i1 i2 i3 i4 d1 d2 d3 d4 => by
    rw [Below.heap_setCell _ _ _ k hk, Below.heap_setCell _ _ _ k hk, Below.heap_setCell _ _ _ k hk, Below.heap_setCell _ _ _ k hk]
  have B4 := (((B3.out.set 0 (.int .u32 x.pc)).set 1 (.slice b1 x.ws.length n1)).set 2 (.slice b2 x.os.length n2)).set 3 (.slice b3 x.ps.length n3)
  have q0 := B4.cell 0
  have q1 := B4.cell 1
  have q2 := B4.cell 2
  have q3 := B4.cell 3
  clear B4
  refine bodyPost_ret (v := .tuple #[.agg #[.int .u32 x.pc, .slice b1 x.ws.length n1, .slice b2 x.os.length n2, .slice b3 x.ps.length n3], .bool b]) (by simp [results, Try.results12, go_sem, q0, q1, q2, q3]) rfl ?_
  clear q0 q1 q2 q3
  have hw := hlt.out
  refine ⟨_, rfl, ⟨_, _, _, rfl, (U1.out.keep fun k h1 _ => hfar k (by omega) _ _ _ _ _ _ _ _).mono (fun k h1 _ => by omega), (U2.out.keep fun k h1 _ => hfar k (by omega) _ _ _ _ _ _ _ _).mono (fun k h1 _ => by omega), (U3.out.keep fun k h1 _ => hfar k (by omega) _ _ _ _ _ _ _ _).mono (fun k h1 _ => by omega), hpc.out, l1, l2, l3⟩, ?_⟩
  exact (((ht.out.setCell (Nat.le_refl _) _).setCell (Nat.le_refl _) _).setCell (Nat.le_refl _) _).setCell (Nat.le_refl _) _

/-- The block at a place, of a row of blocks. -/
def getL (L : List Blk) (pc : Int) : Option Blk := L.find? fun x => x.pc == pc

/-- The blocks of a cache. -/
def blks (E : List (Blk × Value)) : List Blk := E.map (·.1)

theorem get_ways (E : List (Blk × Value)) (pc : Int) (hd : (pcs E).Nodup) : ((∀ p ∈ E, p.1.pc ≠ pc) ∧ getL (blks E) pc = none) ∨ ∃ E1 x v E2, E = E1 ++ (x, v) :: E2 ∧ x.pc = pc ∧ (∀ p ∈ E1, p.1.pc ≠ pc) ∧ (∀ p ∈ E2, p.1.pc ≠ pc) ∧ getL (blks E) pc = some x := by
  induction E with
  | nil => exact .inl ⟨(fun p hp => by cases hp), rfl⟩
  | cons q E ih =>
    simp only [pcs, List.map_cons, List.nodup_cons] at hd
    by_cases e : q.1.pc = pc
    · refine .inr ⟨[], q.1, q.2, E, rfl, e, (fun p hp => by cases hp), fun p hp hpk => hd.1 ?_, ?_⟩
      · rw [e, ← hpk]
        exact List.mem_map_of_mem (f := fun p : Blk × Value => p.1.pc) hp
      · simp [getL, blks, e]
    · have hg : getL (blks (q :: E)) pc = getL (blks E) pc := by simp [getL, blks, e]
      rw [hg]
      rcases ih hd.2 with ⟨h, hn⟩ | ⟨E1, x, v, E2, rfl, hx, h1, h2, hs⟩
      · refine .inl ⟨fun p hp => ?_, hn⟩
        rcases List.mem_cons.1 hp with rfl | hp
        · exact e
        · exact h p hp
      · refine .inr ⟨q :: E1, x, v, E2, rfl, hx, fun p hp => ?_, h2, hs⟩
        rcases List.mem_cons.1 hp with rfl | hp
        · exact e
        · exact h1 p hp

theorem get_any {w : World} {F : Nat → Prop} {cb mb r : Nat} {ov : Value} {E : List (Blk × Value)} (C : CacheAt w F cb mb ov r E) (pc : Int) :
    Calls Try.prog 12 #[.pointer (some ⟨cb, 0, none⟩), .int .u32 pc] w fun e w' =>
      ∃ v', e = .returned (.tuple #[v', .bool (getL (blks E) pc).isSome]) ∧ BlkAt w' (fun k => w.heap.size ≤ k) v' ((getL (blks E) pc).getD B0) ∧ Below w.heap.size w w' := by
  rcases get_ways E pc C.nodup with ⟨h, hn⟩ | ⟨E1, x, v, E2, rfl, rfl, h1, h2, hs⟩
  · rw [hn]
    exact get_core C pc Z4 B0 false (fun y hy => look_no hy pc (fun p hp => by obtain ⟨q, hq, rfl⟩ := List.mem_map.1 hp; exact h q hq) true) (blk0 w (fun _ => True))
  · rw [hs]
    refine get_core C x.pc v x true (fun y hy => ?_) (C.each (x, v) (by simp))
    rw [kvs_app] at hy
    exact look_yes (K1 := kvs E1) (K2 := kvs E2) hy (fun p hp => by obtain ⟨q, hq, rfl⟩ := List.mem_map.1 hp; exact h1 q hq) true

end Go.Proofs.Ytkmafafmnncgiaa
