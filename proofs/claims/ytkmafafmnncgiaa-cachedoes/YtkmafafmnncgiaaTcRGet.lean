/- Layer 16: the document's cache: the block at a place. -/
import Derived.Test.YtkmafafmnncgiaaTcRef
namespace Go.Proofs.Ytkmafafmnncgiaa
open Go.RowKit
set_option linter.unusedVariables false
set_option linter.unusedSimpArgs false

theorem getL_first {E : List (Blk × Value)} {pc : Int} {k : Nat} {p : Blk × Value} (hp : E[k]? = some p) (he : p.1.pc = pc) (h : ∀ q ∈ E.take k, q.1.pc ≠ pc) : getL (blks E) pc = some p.1 := by
  have hsp : E = E.take k ++ p :: E.drop (k + 1) := by
    have hkl := (List.getElem?_eq_some_iff.1 hp).1
    conv => lhs; rw [← List.take_append_drop k E]
    rw [List.drop_eq_getElem_cons hkl]
    congr 2
    exact (List.getElem?_eq_some_iff.1 hp).2
  unfold getL blks
  rw [hsp, List.map_append, List.find?_append, List.find?_eq_none.2 (fun y hy => by
    obtain ⟨q, hq, rfl⟩ := List.mem_map.1 hy
    simpa using h q hq)]
  simp [he]

theorem getL_none {E : List (Blk × Value)} {pc : Int} (h : ∀ q ∈ E, q.1.pc ≠ pc) : getL (blks E) pc = none := by
  unfold getL blks
  rw [List.find?_eq_none]
  intro y hy
  obtain ⟨q, hq, rfl⟩ := List.mem_map.1 hy
  simpa using h q hq

set_option maxHeartbeats 4000000 in
theorem rget_any {w : World} {H : Nat → Prop} {rb r : Nat} {L : List Blk} (h : RC w H rb r L) (hl : L.length ≤ 1000) (pc : Int) :
    Calls Try.prog 13 #[.pointer (some ⟨rb, 0, none⟩), .int .u32 pc] w fun e w' =>
      ∃ v' F', e = .returned (.tuple #[v', .bool (getL L pc).isSome]) ∧ BlkAt w' F' v' ((getL L pc).getD B0) ∧ Below w.heap.size w w' := by
  obtain ⟨lv, E, B, R, rfl, hr⟩ := h
  rw [blks_len] at hl
  obtain ⟨n, hn⟩ : ∃ n, n = E.length := ⟨_, rfl⟩
  have hsh := R.1.shape
  rw [← hn] at hsh hl
  obtain ⟨a, c, rfl, hc⟩ := hsh
  have G1 := grow w (.cells #[.int .u32 0, .slice none 0 0, .slice none 0 0, .slice none 0 0] 38)
  have BZ := Box.new w #[.int .u32 0, .slice none 0 0, .slice none 0 0, .slice none 0 0] 38
  have B1 := hide (B.on G1)
  have R1 := hide (R.on G1)
  have hz0 : Hid (∀ q ∈ E.take 0, q.1.pc ≠ pc) := hide (fun q hq => by simp at hq)
  obtain ⟨w1, hw1⟩ : ∃ w1, w1 = w.alloc (.cells #[.int .u32 0, .slice none 0 0, .slice none 0 0, .slice none 0 0] 38) := ⟨_, rfl⟩
  rw [← hw1] at G1 BZ B1 R1
  have b1 : w1.cell? ⟨rb, 1, none⟩ = some (.slice a n c) := B1.out.cell 1
  replace hn := hide hn
  replace G1 := hide G1
  replace BZ := hide BZ
  have R0 := hide R.2
  clear B R
  subst hw1
  go_enter Try.func13, Try.ntmps13
  go_wp2_with fail
  generalize w.alloc (.cells #[.int .u32 0, .slice none 0 0, .slice none 0 0, .slice none 0 0] 38) = w1 at *
  go_loopw [6] (fun i wr => ∃ k : Nat, k ≤ n ∧ i = .int .i64 (k : Int) ∧ wr = w1 ∧ Hid (∀ q ∈ E.take k, q.1.pc ≠ pc)) (fun i _ => n - (intOf i).toNat)
  case atStart => exact ⟨0, Nat.zero_le _, rfl, rfl, hz0⟩
  case round =>
    obtain ⟨k, hk, rfl, rfl, hq⟩ := hrel
    have z0 := BZ.out.cell 0
    have z1 := BZ.out.cell 1
    have z2 := BZ.out.cell 2
    have z3 := BZ.out.cell 3
    have f0 := BZ.out.free 0
    have f1 := BZ.out.free 1
    have f2 := BZ.out.free 2
    have f3 := BZ.out.free 3
    by_cases h : k < n
    · obtain ⟨p, hp⟩ : ∃ p, E[k]? = some p := ⟨E[k]'(by have := hn.out; omega), List.getElem?_eq_getElem _⟩
      have hat := (((R0.out p (List.mem_of_getElem? hp)).mono (G := fun k => k < w.heap.size) (fun k _ hl => hl)).on G1.out)
      obtain ⟨g, c', u1, n1, u2, n2, u3, n3, he, -, hg, hv, q0, q1, q2, q3⟩ := R1.out.at' hp
      injection he with he1 he2 he3
      subst he1
      clear he2 he3
      by_cases e : p.1.pc = pc
      · have e' : (p.1.pc == pc) = true := by simpa using e
        have hf := hide (getL_first hp e hq.out)
        have B4 := (((BZ.out.set 0 (.int .u32 p.1.pc)).set 1 (.slice u1 p.1.ws.length n1)).set 2 (.slice u2 p.1.os.length n2)).set 3 (.slice u3 p.1.ps.length n3)
        rw [hv] at hat
        replace hat := hide hat
        replace B4 := hide B4
        clear e hv hp hq hz0
        go_wp2
        have y0 := B4.out.cell 0
        have y1 := B4.out.cell 1
        have y2 := B4.out.cell 2
        have y3 := B4.out.cell 3
        refine bodyPost_ret (v := .tuple #[.agg #[.int .u32 p.1.pc, .slice u1 p.1.ws.length n1, .slice u2 p.1.os.length n2, .slice u3 p.1.ps.length n3], .bool true]) (by simp [results, Try.results13, go_sem, y0, y1, y2, y3]) rfl ?_
        clear y0 y1 y2 y3
        rw [hf.out]
        have hfar : ∀ k, k ≠ w.heap.size → ∀ i1 i2 i3 i4 d1 d2 d3 d4, ((((wr.setCell ⟨w.heap.size, i1, none⟩ d1).setCell ⟨w.heap.size, i2, none⟩ d2).setCell ⟨w.heap.size, i3, none⟩ d3).setCell ⟨w.heap.size, i4, none⟩ d4).heap[k]? = wr.heap[k]? := fun k hk i1 i2 i3 i4 d1 d2 d3 d4 => by
          rw [Below.heap_setCell _ _ _ k hk, Below.heap_setCell _ _ _ k hk, Below.heap_setCell _ _ _ k hk, Below.heap_setCell _ _ _ k hk]
        refine ⟨_, fun k => k < w.heap.size, rfl, hat.out.keep (fun k h1 _ => hfar k (by omega) _ _ _ _ _ _ _ _), ?_⟩
        exact (((G1.out.setCell (Nat.le_refl _) _).setCell (Nat.le_refl _) _).setCell (Nat.le_refl _) _).setCell (Nat.le_refl _) _
      · have e' : (p.1.pc == pc) = false := by simpa using e
        have hq2 : Hid (∀ q ∈ E.take (k + 1), q.1.pc ≠ pc) := hide (fun q hqm => by
          rw [List.take_add_one, hp] at hqm
          rcases List.mem_append.1 hqm with hqm | hqm
          · exact hq.out q hqm
          · obtain rfl : q = p := by simpa using hqm
            exact e)
        clear e hv hp hq hz0 hat z0 z1 z2 z3 f0 f1 f2 f3
        go_wp2
        go_roundw
        case rel => exact ⟨k + 1, by omega, by go_num, by trivial, hq2⟩
        case measure => simp [intOf]; omega
    · obtain rfl : k = n := by omega
      have hno := hide (getL_none (E := E) (pc := pc) (fun q hqm => hq.out q (by rw [List.take_of_length_le (by have := hn.out; omega)]; exact hqm)))
      have B4 := hide ((((BZ.out.set 0 (.int .u32 0)).set 1 (.slice none 0 0)).set 2 (.slice none 0 0)).set 3 (.slice none 0 0))
      have ht := hide ((((G1.out.setCell (Nat.le_refl _) (p := ⟨w.heap.size, 0, none⟩) (.int .u32 0)).setCell (Nat.le_refl _) (p := ⟨w.heap.size, 1, none⟩) (.slice none 0 0)).setCell (Nat.le_refl _) (p := ⟨w.heap.size, 2, none⟩) (.slice none 0 0)).setCell (Nat.le_refl _) (p := ⟨w.heap.size, 3, none⟩) (.slice none 0 0))
      go_wp2
      have y0 := B4.out.cell 0
      have y1 := B4.out.cell 1
      have y2 := B4.out.cell 2
      have y3 := B4.out.cell 3
      refine bodyPost_ret (v := .tuple #[.agg #[.int .u32 0, .slice none 0 0, .slice none 0 0, .slice none 0 0], .bool false]) (by simp [results, Try.results13, go_sem, y0, y1, y2, y3]) rfl ?_
      rw [hno.out]
      exact ⟨_, fun _ => True, rfl, blk0 _ _, ht.out⟩

end Go.Proofs.Ytkmafafmnncgiaa
