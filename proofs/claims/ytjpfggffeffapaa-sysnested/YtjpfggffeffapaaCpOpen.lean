/- Layer 8: what comes in is opened: the registers, an exception, a row of them. -/
import Derived.Test.YtjpfggffeffapaaCpFixed
import Derived.ProofKit
import Derived.OpenShut
import Derived.ChangeOld
import Derived.Deep.Slices
import Derived.Carry
import Derived.Lib.SmallJoins
namespace Go.Proofs.Ytjpfggffeffapaa
open Go.ChangeShapes Go.WideShapes Go.ChangeAt Go.RowKit Go.Joins
set_option linter.unusedVariables false
set_option linter.unusedSimpArgs false

theorem own : ownKnob Try.prog.godebug = none := by kernel_rfl

theorem laidOut : laidOutB Try.prog = true := by kernel_rfl

theorem wf_u32 {n : Int} (h : (Lit.int .u32 n).wf = true) : W32 n := by
  simp [Lit.wf, IntKind.min, IntKind.max, IntKind.signed, IntKind.bits] at h
  exact ⟨h.1, by omega⟩

/-- An exception: its code, is it a refill, in a delay slot, where? -/
structure Exc8 where
  code : Int
  f : Bool
  d : Bool
  pc : Int

def listX (x : Exc8) : List Value := [.int .i64 x.code, .bool x.f, .bool x.d, .int .u32 x.pc]

section
variable {H : Type} {enc : TypeId × Value → H} {w : World} {base : Nat} {spare : Nat → Bool} {held : Bool}

theorem cp0_cells {fuel : Nat} {l : List Value} {y : DataW H × List MemPlace} (hn : l.length = 9) (h : DataW.trod enc Try.prog w base spare held fuel 24 l = some y) :
    ∃ r, l = (cellsR r).toList ∧ Wr r := by
  have u1 : Try.prog.cellsOf 22 = 1 := by kernel_rfl
  match l, hn with
  | [c0, c1, c2, c3, c4, c5, c6, c7, c8], _ =>
    obtain ⟨xs, m, -, hx, -, hlen, hf⟩ := DataW.trod_struct Try.underlying24 h
    match xs, hlen, hf, hx with
    | [y0, y1, y2, y3, y4, y5, y6, y7, y8], _, hf, hx =>
      have h0 : DataW.trod enc Try.prog w base spare held m 22 ((([c0, c1, c2, c3, c4, c5, c6, c7, c8] : List Value).drop 0).take (Try.prog.cellsOf 22)) = some y0 := hf 0 _ rfl
      have h1 : DataW.trod enc Try.prog w base spare held m 22 ((([c0, c1, c2, c3, c4, c5, c6, c7, c8] : List Value).drop 1).take (Try.prog.cellsOf 22)) = some y1 := hf 1 _ rfl
      have h2 : DataW.trod enc Try.prog w base spare held m 22 ((([c0, c1, c2, c3, c4, c5, c6, c7, c8] : List Value).drop 2).take (Try.prog.cellsOf 22)) = some y2 := hf 2 _ rfl
      have h3 : DataW.trod enc Try.prog w base spare held m 22 ((([c0, c1, c2, c3, c4, c5, c6, c7, c8] : List Value).drop 3).take (Try.prog.cellsOf 22)) = some y3 := hf 3 _ rfl
      have h4 : DataW.trod enc Try.prog w base spare held m 22 ((([c0, c1, c2, c3, c4, c5, c6, c7, c8] : List Value).drop 4).take (Try.prog.cellsOf 22)) = some y4 := hf 4 _ rfl
      have h5 : DataW.trod enc Try.prog w base spare held m 22 ((([c0, c1, c2, c3, c4, c5, c6, c7, c8] : List Value).drop 5).take (Try.prog.cellsOf 22)) = some y5 := hf 5 _ rfl
      have h6 : DataW.trod enc Try.prog w base spare held m 22 ((([c0, c1, c2, c3, c4, c5, c6, c7, c8] : List Value).drop 6).take (Try.prog.cellsOf 22)) = some y6 := hf 6 _ rfl
      have h7 : DataW.trod enc Try.prog w base spare held m 22 ((([c0, c1, c2, c3, c4, c5, c6, c7, c8] : List Value).drop 7).take (Try.prog.cellsOf 22)) = some y7 := hf 7 _ rfl
      have h8 : DataW.trod enc Try.prog w base spare held m 22 ((([c0, c1, c2, c3, c4, c5, c6, c7, c8] : List Value).drop 8).take (Try.prog.cellsOf 22)) = some y8 := hf 8 _ rfl
      rw [u1] at h0 h1 h2 h3 h4 h5 h6 h7 h8
      obtain ⟨a0, e0, -, w0⟩ := DataW.trod_int Try.underlying22 h0
      obtain ⟨a1, e1, -, w1⟩ := DataW.trod_int Try.underlying22 h1
      obtain ⟨a2, e2, -, w2⟩ := DataW.trod_int Try.underlying22 h2
      obtain ⟨a3, e3, -, w3⟩ := DataW.trod_int Try.underlying22 h3
      obtain ⟨a4, e4, -, w4⟩ := DataW.trod_int Try.underlying22 h4
      obtain ⟨a5, e5, -, w5⟩ := DataW.trod_int Try.underlying22 h5
      obtain ⟨a6, e6, -, w6⟩ := DataW.trod_int Try.underlying22 h6
      obtain ⟨a7, e7, -, w7⟩ := DataW.trod_int Try.underlying22 h7
      obtain ⟨a8, e8, -, w8⟩ := DataW.trod_int Try.underlying22 h8
      simp at e0 e1 e2 e3 e4 e5 e6 e7 e8
      subst e0 e1 e2 e3 e4 e5 e6 e7 e8
      exact ⟨⟨a0, a1, a2, a3, a4, a5, a6, a7, a8⟩, rfl, ⟨wf_u32 w0, wf_u32 w1, wf_u32 w2, wf_u32 w3, wf_u32 w4, wf_u32 w5, wf_u32 w6, wf_u32 w7, wf_u32 w8⟩⟩

theorem open_cp0 {r : Reach} {b0 : Nat} {v : Value} {x : DataW H} {p : List MemPlace}
    (hv : Value.okWide Try.prog w r b0 24 v) (h : DataW.Trod enc Try.prog w base spare held 24 v x p) : ∃ q : Regs, v = .agg (cellsR q) ∧ Wr q := by
  obtain ⟨cs, rfl, hsz⟩ := okWide_struct Try.underlying24 hv
  have c9 : Try.prog.cellsOf 24 = 9 := by kernel_rfl
  rw [c9] at hsz
  obtain ⟨fuel, hf⟩ := h
  obtain ⟨q, e, hq⟩ := cp0_cells (by simpa [Value.cells] using hsz) hf
  refine ⟨q, ?_, hq⟩
  congr 1
  apply Array.toList_inj.1
  simpa [Value.cells] using e

theorem exc_cells {fuel : Nat} {l : List Value} {y : DataW H × List MemPlace} (hn : l.length = 4) (h : DataW.trod enc Try.prog w base spare held fuel 30 l = some y) :
    ∃ x : Exc8, l = listX x ∧ W32 x.pc ∧ (Lit.int .i64 x.code).wf = true := by
  have c1 : Try.prog.cellsOf 22 = 1 := by kernel_rfl
  have c3 : Try.prog.cellsOf 3 = 1 := by kernel_rfl
  have c4 : Try.prog.cellsOf 4 = 1 := by kernel_rfl
  match l, hn with
  | [c0, c1', c2, c3'], _ =>
    obtain ⟨xs, m, -, hx, -, hlen, hf⟩ := DataW.trod_struct Try.underlying30 h
    match xs, hlen, hf, hx with
    | [y0, y1, y2, y3], _, hf, hx =>
      have h0 : DataW.trod enc Try.prog w base spare held m 3 ((([c0, c1', c2, c3'] : List Value).drop 0).take (Try.prog.cellsOf 3)) = some y0 := hf 0 _ rfl
      have h1 : DataW.trod enc Try.prog w base spare held m 4 ((([c0, c1', c2, c3'] : List Value).drop 1).take (Try.prog.cellsOf 4)) = some y1 := hf 1 _ rfl
      have h2 : DataW.trod enc Try.prog w base spare held m 4 ((([c0, c1', c2, c3'] : List Value).drop 2).take (Try.prog.cellsOf 4)) = some y2 := hf 2 _ rfl
      have h3 : DataW.trod enc Try.prog w base spare held m 22 ((([c0, c1', c2, c3'] : List Value).drop 3).take (Try.prog.cellsOf 22)) = some y3 := hf 3 _ rfl
      rw [c3] at h0
      rw [c4] at h1 h2
      rw [c1] at h3
      obtain ⟨a0, e0, -, w0⟩ := DataW.trod_int Try.underlying3 h0
      obtain ⟨a1, e1, -⟩ := DataW.trod_bool Try.underlying4 h1
      obtain ⟨a2, e2, -⟩ := DataW.trod_bool Try.underlying4 h2
      obtain ⟨a3, e3, -, w3⟩ := DataW.trod_int Try.underlying22 h3
      simp at e0 e1 e2 e3
      subst e0 e1 e2 e3
      exact ⟨⟨a0, a1, a2, a3⟩, rfl, wf_u32 w3, w0⟩

theorem open_exc {r : Reach} {b0 : Nat} {v : Value} {x : DataW H} {p : List MemPlace}
    (hv : Value.okWide Try.prog w r b0 30 v) (h : DataW.Trod enc Try.prog w base spare held 30 v x p) :
    ∃ (code : Int) (f d : Bool) (pc : Int), v = .agg #[.int .i64 code, .bool f, .bool d, .int .u32 pc] ∧ W32 pc ∧ (Lit.int .i64 code).wf = true := by
  obtain ⟨cs, rfl, hsz⟩ := okWide_struct Try.underlying30 hv
  have c4 : Try.prog.cellsOf 30 = 4 := by kernel_rfl
  rw [c4] at hsz
  obtain ⟨fuel, hf⟩ := h
  obtain ⟨q, e, hq⟩ := exc_cells (by simpa [Value.cells] using hsz) hf
  refine ⟨q.code, q.f, q.d, q.pc, ?_, hq⟩
  congr 1
  apply Array.toList_inj.1
  simpa [Value.cells, listX] using e

/-- A row of exceptions that came in. -/
def IsExcs (w : World) (v : Value) (xs : List Exc8) : Prop :=
  (∃ a c, xs = [] ∧ v = .slice a 0 c) ∨ ∃ b off c, v = .slice (some ⟨b, off, none⟩) xs.length c ∧ xs.length ≤ c ∧ xs.length ≤ maxLen ∧
    ∀ (i : Nat) (o : Exc8), xs[i]? = some o → (W32 o.pc ∧ (Lit.int .i64 o.code).wf = true) ∧ ∀ j, j < 4 → w.cell? ⟨b, off + i * 4 + j, none⟩ = (listX o)[j]?

theorem open_excs {r : Reach} {b0 : Nat} {v : Value} {x : DataW H} {p : List MemPlace}
    (hv : Value.okWide Try.prog w r b0 41 v) (h : DataW.Trod enc Try.prog w base spare held 41 v x p) : ∃ xs, IsExcs w v xs := by
  have c4 : Try.prog.cellsOf 30 = 4 := by kernel_rfl
  obtain ⟨a, len, cap, rfl⟩ := okWide_slice Try.underlying41 hv
  obtain ⟨fuel, hf⟩ := h
  rcases Go.Deep.open_slice Try.underlying41 hf with ⟨hcs, _⟩ | ⟨y, l, c, m, n, D, Pl, hcs, hb, hl, hm, hmm, -, hx⟩
  · simp [Value.cells] at hcs
    obtain ⟨rfl, rfl, rfl⟩ := hcs
    exact ⟨[], Or.inl ⟨_, _, rfl, rfl⟩⟩
  · simp [Value.cells] at hcs
    obtain ⟨rfl, rfl, rfl⟩ := hcs
    have hle : len ≤ m := by rw [hmm]; split <;> omega
    by_cases h0 : len = 0
    · subst h0
      exact ⟨[], Or.inl ⟨_, _, rfl, rfl⟩⟩
    · have each : ∀ i, i < len → ∃ o : Exc8, (W32 o.pc ∧ (Lit.int .i64 o.code).wf = true) ∧ ∀ j, j < 4 → w.cell? (y.add (i * 4 + j)) = (listX o)[j]? := by
        intro i hi
        obtain ⟨cs, h1, h2⟩ := hx i (by omega)
        rw [c4] at h1
        obtain ⟨_, hlen, hc⟩ := World.cells?_some h1
        obtain ⟨o, rfl, ho⟩ := exc_cells hlen h2
        refine ⟨o, ho, fun j hj => ?_⟩
        rw [← hc j hj, Addr.add_add]
      obtain ⟨b, off, spot⟩ := y
      have hs : spot = none := by
        obtain ⟨o, -, hc⟩ := each 0 (by omega)
        have := hc 0 (by decide)
        simpa [Addr.add] using World.cell?_spot (v := .int .i64 o.code) this
      subst hs
      obtain ⟨f, hf⟩ := Classical.axiomOfChoice (r := fun (i : Fin len) (o : Exc8) => (W32 o.pc ∧ (Lit.int .i64 o.code).wf = true) ∧ ∀ j, j < 4 → w.cell? ((⟨b, off, none⟩ : Addr).add (i.1 * 4 + j)) = (listX o)[j]?) (fun i => each i.1 i.2)
      refine ⟨List.ofFn f, Or.inr ⟨b, off, cap, ?_, ?_, ?_, ?_⟩⟩
      · rw [List.length_ofFn]
      · rw [List.length_ofFn]; exact hl
      · rw [List.length_ofFn]; omega
      · intro i o hi
        have hil : i < len := by
          have := (List.getElem?_eq_some_iff.1 hi).1
          rwa [List.length_ofFn] at this
        rw [List.getElem?_eq_getElem (by rw [List.length_ofFn]; exact hil), List.getElem_ofFn] at hi
        injection hi with hi
        obtain ⟨h1, h2⟩ := hf ⟨i, hil⟩
        rw [hi] at h1 h2
        refine ⟨h1, fun j hj => ?_⟩
        have := h2 j hj
        rw [Addr.add_lit] at this
        rw [← this, Nat.add_assoc]
end

end Go.Proofs.Ytjpfggffeffapaa
