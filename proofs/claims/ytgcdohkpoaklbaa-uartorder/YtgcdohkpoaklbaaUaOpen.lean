/- Layer 10: what comes in is opened: a uart, a row of numbers. -/
import Derived.Test.YtgcdohkpoaklbaaUaFixed
import Derived.ProofKit
import Derived.OpenShut
import Derived.ShutString
import Derived.ChangeOld
import Derived.Deep.Slices
import Derived.Carry
import Derived.Lib.SmallJoins
namespace Go.Proofs.Ytgcdohkpoaklbaa
open Go.ChangeShapes Go.WideShapes Go.ChangeAt Go.RowKit Go.Joins
set_option linter.unusedVariables false
set_option linter.unusedSimpArgs false

theorem own : ownKnob Try.prog.godebug = none := by kernel_rfl

theorem laidOut : laidOutB Try.prog = true := by kernel_rfl

theorem wf_u32 {n : Int} (h : (Lit.int .u32 n).wf = true) : 0 ≤ n ∧ n < 4294967296 := by
  simp [Lit.wf, IntKind.min, IntKind.max, IntKind.signed, IntKind.bits] at h
  exact ⟨h.1, by omega⟩

theorem wf_i64 {n : Int} (h : (Lit.int .i64 n).wf = true) : -9223372036854775808 ≤ n ∧ n ≤ 9223372036854775807 := by
  simp [Lit.wf, IntKind.min, IntKind.max, IntKind.signed, IntKind.bits] at h
  exact ⟨h.1, by omega⟩

/-- Both texts are no longer than a text may be. -/
structure Wu (u : Ua) : Prop where
  i : u.i.size ≤ maxLen
  o : u.o.size ≤ maxLen

/-- A row of numbers that came in. -/
def IsInts (w : World) (v : Value) (zs : List Int) : Prop :=
  (∃ a c, zs = [] ∧ v = .slice a 0 c) ∨ ∃ b off c, v = .slice (some ⟨b, off, none⟩) zs.length c ∧ zs.length ≤ maxLen ∧ b < w.heap.size ∧ ∀ i z, zs[i]? = some z → (-9223372036854775808 ≤ z ∧ z ≤ 9223372036854775807) ∧ w.cell? ⟨b, off + i, none⟩ = some (.int .i64 z)

section
variable {H : Type} {enc : TypeId × Value → H} {w : World} {base : Nat} {spare : Nat → Bool} {held : Bool}

theorem open_uart {r : Reach} {b0 : Nat} {v : Value} {x : DataW H} {p : List MemPlace}
    (hv : Value.okWide Try.prog w r b0 23 v) (h : DataW.Trod enc Try.prog w base spare held 23 v x p) : ∃ q : Ua, v = .agg (cellsU q) ∧ Wu q := by
  obtain ⟨cs, rfl, hsz⟩ := okWide_struct Try.underlying23 hv
  have c3 : Try.prog.cellsOf 23 = 3 := by kernel_rfl
  have u9 : Try.prog.cellsOf 9 = 1 := by kernel_rfl
  have u4 : Try.prog.cellsOf 4 = 1 := by kernel_rfl
  rw [c3] at hsz
  obtain ⟨fuel, hf⟩ := h
  obtain ⟨c, hc⟩ : ∃ c, cs.toList = c := ⟨_, rfl⟩
  have hlen3 : c.length = 3 := by rw [← hc]; simpa using hsz
  simp only [Value.cells, hc] at hf
  match c, hlen3, hf, hc with
  | [c0, c1, c2], _, hf, hc =>
    obtain ⟨xs, m, -, hx, -, hlen, hf⟩ := DataW.trod_struct Try.underlying23 hf
    match xs, hlen, hf, hx with
    | [y0, y1, y2], _, hf, hx =>
      have h0 : DataW.trod enc Try.prog w base spare held m 9 ((([c0, c1, c2] : List Value).drop 0).take (Try.prog.cellsOf 9)) = some y0 := hf 0 _ rfl
      have h1 : DataW.trod enc Try.prog w base spare held m 9 ((([c0, c1, c2] : List Value).drop 1).take (Try.prog.cellsOf 9)) = some y1 := hf 1 _ rfl
      have h2 : DataW.trod enc Try.prog w base spare held m 4 ((([c0, c1, c2] : List Value).drop 2).take (Try.prog.cellsOf 4)) = some y2 := hf 2 _ rfl
      rw [u9] at h0 h1
      rw [u4] at h2
      obtain ⟨a0, e0, -, w0⟩ := DataW.trod_string Try.underlying9 h0
      obtain ⟨a1, e1, -, w1⟩ := DataW.trod_string Try.underlying9 h1
      obtain ⟨a2, e2, -⟩ := DataW.trod_bool Try.underlying4 h2
      simp at e0 e1 e2
      subst e0 e1 e2
      refine ⟨⟨a0, a1, a2⟩, ?_, ⟨w0, w1⟩⟩
      congr 1
      apply Array.toList_inj.1
      rw [hc]
      rfl

theorem open_ints10 {r : Reach} {b0 : Nat} {v : Value} {x : DataW H} {p : List MemPlace}
    (hv : Value.okWide Try.prog w r b0 39 v) (h : DataW.Trod enc Try.prog w base spare held 39 v x p) : ∃ zs, IsInts w v zs := by
  obtain ⟨a, len, cap, rfl⟩ := okWide_slice Try.underlying39 hv
  obtain ⟨fuel, hf⟩ := h
  rcases open_ints Try.underlying39 Try.underlying3 (by kernel_rfl) hf with ⟨hcs, _⟩ | ⟨y, l, c, zs, hcs, _, hl, hm, hz, _, hcell, hwz⟩
  · simp [Value.cells] at hcs
    obtain ⟨rfl, rfl, rfl⟩ := hcs
    exact ⟨[], Or.inl ⟨_, _, rfl, rfl⟩⟩
  · simp [Value.cells] at hcs
    obtain ⟨rfl, rfl, rfl⟩ := hcs
    have hle : len ≤ zs.length := by rw [hz]; split <;> omega
    by_cases h0 : len = 0
    · subst h0
      exact ⟨[], Or.inl ⟨_, _, rfl, rfl⟩⟩
    · obtain ⟨b, off, spot⟩ := y
      have hs : spot = none := by simpa [Addr.add] using World.cell?_spot (hcell 0 (by omega))
      subst hs
      refine ⟨zs.take len, Or.inr ⟨b, off, cap, ?_, ?_, ?_, ?_⟩⟩
      · rw [List.length_take, Nat.min_eq_left hle]
      · rw [List.length_take, Nat.min_eq_left hle]; omega
      · have := World.block_lt_of_cell? _ _ (hcell 0 (by omega))
        exact this
      · intro i z hi
        have hil : i < len := by
          have := (List.getElem?_eq_some_iff.1 hi).1
          rw [List.length_take] at this
          omega
        rw [List.getElem?_take_of_lt hil] at hi
        have hc := hcell i (by omega)
        rw [Addr.add_lit, List.getD_eq_getElem?_getD, hi] at hc
        exact ⟨wf_i64 (hwz z (List.mem_of_getElem? hi)), hc⟩
end

end Go.Proofs.Ytgcdohkpoaklbaa
