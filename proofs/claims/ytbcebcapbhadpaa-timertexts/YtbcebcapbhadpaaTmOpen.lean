/- Layer 9: what comes in is opened: a timer, a timer with numbers of steps. -/
import Derived.Test.YtbcebcapbhadpaaTmFixed
import Derived.ProofKit
import Derived.OpenShut
import Derived.ChangeOld
import Derived.Deep.Slices
import Derived.Carry
import Derived.Lib.SmallJoins
namespace Go.Proofs.Ytbcebcapbhadpaa
open Go.ChangeShapes Go.WideShapes Go.ChangeAt Go.RowKit Go.Joins
set_option linter.unusedVariables false
set_option linter.unusedSimpArgs false

theorem own : ownKnob Try.prog.godebug = none := by kernel_rfl

theorem laidOut : laidOutB Try.prog = true := by kernel_rfl

theorem wf_u32 {n : Int} (h : (Lit.int .u32 n).wf = true) : W32 n := by
  simp [Lit.wf, IntKind.min, IntKind.max, IntKind.signed, IntKind.bits] at h
  exact ⟨h.1, by omega⟩

theorem wf_i64 {n : Int} (h : (Lit.int .i64 n).wf = true) : -9223372036854775808 ≤ n ∧ n ≤ 9223372036854775807 := by
  simp [Lit.wf, IntKind.min, IntKind.max, IntKind.signed, IntKind.bits] at h
  exact ⟨h.1, by omega⟩

section
variable {H : Type} {enc : TypeId × Value → H} {w : World} {base : Nat} {spare : Nat → Bool} {held : Bool}

theorem timer_cells {fuel : Nat} {l : List Value} {y : DataW H × List MemPlace} (hn : l.length = 3) (h : DataW.trod enc Try.prog w base spare held fuel 24 l = some y) :
    ∃ t, l = (cellsT t).toList ∧ Wt t := by
  have u1 : Try.prog.cellsOf 22 = 1 := by kernel_rfl
  have u4 : Try.prog.cellsOf 4 = 1 := by kernel_rfl
  match l, hn with
  | [c0, c1, c2], _ =>
    obtain ⟨xs, m, -, hx, -, hlen, hf⟩ := DataW.trod_struct Try.underlying24 h
    match xs, hlen, hf, hx with
    | [y0, y1, y2], _, hf, hx =>
      have h0 : DataW.trod enc Try.prog w base spare held m 22 ((([c0, c1, c2] : List Value).drop 0).take (Try.prog.cellsOf 22)) = some y0 := hf 0 _ rfl
      have h1 : DataW.trod enc Try.prog w base spare held m 22 ((([c0, c1, c2] : List Value).drop 1).take (Try.prog.cellsOf 22)) = some y1 := hf 1 _ rfl
      have h2 : DataW.trod enc Try.prog w base spare held m 4 ((([c0, c1, c2] : List Value).drop 2).take (Try.prog.cellsOf 4)) = some y2 := hf 2 _ rfl
      rw [u1] at h0 h1
      rw [u4] at h2
      obtain ⟨a0, e0, -, w0⟩ := DataW.trod_int Try.underlying22 h0
      obtain ⟨a1, e1, -, w1⟩ := DataW.trod_int Try.underlying22 h1
      obtain ⟨a2, e2, -⟩ := DataW.trod_bool Try.underlying4 h2
      simp at e0 e1 e2
      subst e0 e1 e2
      exact ⟨⟨a0, a1, a2⟩, rfl, ⟨wf_u32 w0, wf_u32 w1⟩⟩

theorem open_timer {r : Reach} {b0 : Nat} {v : Value} {x : DataW H} {p : List MemPlace}
    (hv : Value.okWide Try.prog w r b0 24 v) (h : DataW.Trod enc Try.prog w base spare held 24 v x p) : ∃ q : Tm, v = .agg (cellsT q) ∧ Wt q := by
  obtain ⟨cs, rfl, hsz⟩ := okWide_struct Try.underlying24 hv
  have c3 : Try.prog.cellsOf 24 = 3 := by kernel_rfl
  rw [c3] at hsz
  obtain ⟨fuel, hf⟩ := h
  obtain ⟨q, e, hq⟩ := timer_cells (by simpa [Value.cells] using hsz) hf
  refine ⟨q, ?_, hq⟩
  congr 1
  apply Array.toList_inj.1
  simpa [Value.cells] using e

/-- A timer, two numbers of steps, to what one is set. -/
def cellsF (t : Tm) (A B V : Int) : Array Value := #[.int .u32 t.e, .int .u32 t.l, .bool t.r, .int .i64 A, .int .i64 B, .int .u32 V]

theorem open_far {r : Reach} {b0 : Nat} {v : Value} {x : DataW H} {p : List MemPlace}
    (hv : Value.okWide Try.prog w r b0 39 v) (h : DataW.Trod enc Try.prog w base spare held 39 v x p) :
    ∃ (t : Tm) (A B V : Int), v = .agg (cellsF t A B V) ∧ Wt t ∧ W32 V := by
  obtain ⟨cs, rfl, hsz⟩ := okWide_struct Try.underlying39 hv
  have c6 : Try.prog.cellsOf 39 = 6 := by kernel_rfl
  have c3 : Try.prog.cellsOf 24 = 3 := by kernel_rfl
  have u1 : Try.prog.cellsOf 22 = 1 := by kernel_rfl
  have u3 : Try.prog.cellsOf 3 = 1 := by kernel_rfl
  rw [c6] at hsz
  obtain ⟨fuel, hf⟩ := h
  obtain ⟨c, hc⟩ : ∃ c, cs.toList = c := ⟨_, rfl⟩
  have hlen6 : c.length = 6 := by rw [← hc]; simpa using hsz
  simp only [Value.cells, hc] at hf
  match c, hlen6, hf, hc with
  | [c0, c1, c2, c3', c4, c5], _, hf, hc =>
    obtain ⟨xs, m, -, hx, -, hlen, hf⟩ := DataW.trod_struct Try.underlying39 hf
    match xs, hlen, hf, hx with
    | [y0, y1, y2, y3], _, hf, hx =>
      have h0 : DataW.trod enc Try.prog w base spare held m 24 ((([c0, c1, c2, c3', c4, c5] : List Value).drop 0).take (Try.prog.cellsOf 24)) = some y0 := hf 0 _ rfl
      have h1 : DataW.trod enc Try.prog w base spare held m 3 ((([c0, c1, c2, c3', c4, c5] : List Value).drop 3).take (Try.prog.cellsOf 3)) = some y1 := hf 1 _ rfl
      have h2 : DataW.trod enc Try.prog w base spare held m 3 ((([c0, c1, c2, c3', c4, c5] : List Value).drop 4).take (Try.prog.cellsOf 3)) = some y2 := hf 2 _ rfl
      have h3 : DataW.trod enc Try.prog w base spare held m 22 ((([c0, c1, c2, c3', c4, c5] : List Value).drop 5).take (Try.prog.cellsOf 22)) = some y3 := hf 3 _ rfl
      rw [c3] at h0
      rw [u3] at h1 h2
      rw [u1] at h3
      obtain ⟨t, e0, ht⟩ := timer_cells rfl h0
      obtain ⟨a1, e1, -, w1⟩ := DataW.trod_int Try.underlying3 h1
      obtain ⟨a2, e2, -, w2⟩ := DataW.trod_int Try.underlying3 h2
      obtain ⟨a3, e3, -, w3⟩ := DataW.trod_int Try.underlying22 h3
      simp [cellsT] at e0 e1 e2 e3
      obtain ⟨rfl, rfl, rfl⟩ := e0
      subst e1 e2 e3
      refine ⟨t, a1, a2, a3, ?_, ht, wf_u32 w3⟩
      congr 1
      apply Array.toList_inj.1
      rw [hc]
      rfl
end

end Go.Proofs.Ytbcebcapbhadpaa
