/- Layer 14: what comes in is opened: words, operations, registers. -/
import Derived.Test.YtmegghgjllbamaaGreatDoorQIrFixed
import Derived.Test.YtmegghgjllbamaaGreatDoorQDecOpen
import Derived.ProofKit
import Derived.OpenShut
import Derived.ChangeOld
import Derived.Deep.Slices
import Derived.Carry
import Derived.ChangeSame
import Derived.Lib.SmallJoins
namespace Go.Proofs.YtmegghgjllbamaaGreatDoor.Ir
open Go.ChangeShapes Go.WideShapes Go.ChangeAt Go.RowKit Go.Joins
set_option linter.unusedVariables false
set_option maxRecDepth 100000
set_option linter.unusedSimpArgs false

theorem laidOut : laidOutB Tryz.prog = true := by kernel_rfl

theorem wf_u32 {n : Int} (h : (Lit.int .u32 n).wf = true) : Cp.W32 n := by
  simp [Lit.wf, IntKind.min, IntKind.max, IntKind.signed, IntKind.bits] at h
  exact ⟨h.1, by omega⟩

theorem wf_i64 {n : Int} (h : (Lit.int .i64 n).wf = true) : -9223372036854775808 ≤ n ∧ n ≤ 9223372036854775807 := by
  simp [Lit.wf, IntKind.min, IntKind.max, IntKind.signed, IntKind.bits] at h
  exact ⟨h.1, by omega⟩

/-- There is room for what is there. -/
def CapOk (v : Value) : Prop := ∃ ad n c, v = .slice ad n c ∧ n ≤ c

section
variable {H : Type} {enc : TypeId × Value → H} {w : World} {base : Nat} {spare : Nat → Bool} {held : Bool}

theorem open_words {r : Reach} {b0 : Nat} {v : Value} {x : DataW H} {p : List MemPlace}
    (hv : Value.okWide Tryz.prog w r b0 22 v) (h : DataW.Trod enc Tryz.prog w base spare held 22 v x p) : ∃ zs, IsWords w v zs ∧ CapOk v := by
  obtain ⟨a, len, cap, rfl⟩ := okWide_slice Tryz.underlying22 hv
  obtain ⟨fuel, hf⟩ := h
  rcases open_ints Tryz.underlying22 Tryz.underlying23 (by kernel_rfl) hf with ⟨hcs, _⟩ | ⟨y, l, c, zs, hcs, _, hl, hm, hz, _, hcell, hwz⟩
  · simp [Value.cells] at hcs
    obtain ⟨rfl, rfl, rfl⟩ := hcs
    exact ⟨[], Or.inl ⟨_, _, rfl, rfl⟩, _, _, _, rfl, Nat.le_refl _⟩
  · simp [Value.cells] at hcs
    obtain ⟨rfl, rfl, rfl⟩ := hcs
    have hle : len ≤ zs.length := by rw [hz]; split <;> omega
    by_cases h0 : len = 0
    · subst h0
      exact ⟨[], Or.inl ⟨_, _, rfl, rfl⟩, _, _, _, rfl, hl⟩
    · obtain ⟨b, off, spot⟩ := y
      have hs : spot = none := by simpa [Addr.add] using World.cell?_spot (hcell 0 (by omega))
      subst hs
      refine ⟨zs.take len, Or.inr ⟨b, off, cap, ?_, ?_, hm, ?_, ?_⟩, _, _, _, rfl, hl⟩
      · rw [List.length_take, Nat.min_eq_left hle]
      · rw [List.length_take, Nat.min_eq_left hle]; exact hl
      · exact World.block_lt_of_cell? _ _ (hcell 0 (by omega))
      · intro i z hi
        have hil : i < len := by
          have := (List.getElem?_eq_some_iff.1 hi).1
          rw [List.length_take] at this
          omega
        rw [List.getElem?_take_of_lt hil] at hi
        have hc := hcell i (by omega)
        rw [Addr.add_lit, List.getD_eq_getElem?_getD, hi] at hc
        exact ⟨wf_u32 (hwz z (List.mem_of_getElem? hi)), hc⟩

theorem cellsOpM : Tryz.prog.cellsOf 66 = 6 := by kernel_rfl

theorem open_op {n : Nat} {cs : List Value} {x : DataW H × List MemPlace} (hl : cs.length = 6)
    (h : DataW.trod enc Tryz.prog w base spare held n 66 cs = some x) : ∃ o : Mi, Cp.W32 o.m ∧ cs = (cellsM o).toList := by
  have u1 : Tryz.prog.cellsOf 23 = 1 := by kernel_rfl
  have u3 : Tryz.prog.cellsOf 3 = 1 := by kernel_rfl
  match cs, hl with
  | [c0, c1, c2, c3, c4, c5], _ =>
    obtain ⟨xs, m, -, hx, -, hlen, hf⟩ := DataW.trod_struct Tryz.underlying66 h
    match xs, hlen, hf, hx with
    | [y0, y1, y2, y3, y4, y5], _, hf, hx =>
      have h0 : DataW.trod enc Tryz.prog w base spare held m 3 ((([c0, c1, c2, c3, c4, c5] : List Value).drop 0).take (Tryz.prog.cellsOf 3)) = some y0 := hf 0 _ rfl
      have h1 : DataW.trod enc Tryz.prog w base spare held m 3 ((([c0, c1, c2, c3, c4, c5] : List Value).drop 1).take (Tryz.prog.cellsOf 3)) = some y1 := hf 1 _ rfl
      have h2 : DataW.trod enc Tryz.prog w base spare held m 3 ((([c0, c1, c2, c3, c4, c5] : List Value).drop 2).take (Tryz.prog.cellsOf 3)) = some y2 := hf 2 _ rfl
      have h3 : DataW.trod enc Tryz.prog w base spare held m 3 ((([c0, c1, c2, c3, c4, c5] : List Value).drop 3).take (Tryz.prog.cellsOf 3)) = some y3 := hf 3 _ rfl
      have h4 : DataW.trod enc Tryz.prog w base spare held m 23 ((([c0, c1, c2, c3, c4, c5] : List Value).drop 4).take (Tryz.prog.cellsOf 23)) = some y4 := hf 4 _ rfl
      have h5 : DataW.trod enc Tryz.prog w base spare held m 3 ((([c0, c1, c2, c3, c4, c5] : List Value).drop 5).take (Tryz.prog.cellsOf 3)) = some y5 := hf 5 _ rfl
      rw [u3] at h0 h1 h2 h3 h5
      rw [u1] at h4
      obtain ⟨a0, e0, -, -⟩ := DataW.trod_int Tryz.underlying3 h0
      obtain ⟨a1, e1, -, -⟩ := DataW.trod_int Tryz.underlying3 h1
      obtain ⟨a2, e2, -, -⟩ := DataW.trod_int Tryz.underlying3 h2
      obtain ⟨a3, e3, -, -⟩ := DataW.trod_int Tryz.underlying3 h3
      obtain ⟨a4, e4, -, w4⟩ := DataW.trod_int Tryz.underlying23 h4
      obtain ⟨a5, e5, -, -⟩ := DataW.trod_int Tryz.underlying3 h5
      simp at e0 e1 e2 e3 e4 e5
      subst e0 e1 e2 e3 e4 e5
      exact ⟨⟨a0, a1, a2, a3, a4, a5⟩, wf_u32 w4, rfl⟩

theorem open_ops {r : Reach} {b0 : Nat} {v : Value} {x : DataW H} {p : List MemPlace}
    (hv : Value.okWide Tryz.prog w r b0 30 v) (h : DataW.Trod enc Tryz.prog w base spare held 30 v x p) : ∃ ops, IsOps w v ops ∧ WordsM ops ∧ CapOk v := by
  obtain ⟨a, len, cap, rfl⟩ := okWide_slice Tryz.underlying30 hv
  obtain ⟨fuel, hf⟩ := h
  rcases Go.Deep.open_slice Tryz.underlying30 hf with ⟨hcs, _⟩ | ⟨y, l, c, m, n, D, Pl, hcs, hb, hl, hm, hmm, -, hx⟩
  · simp [Value.cells] at hcs
    obtain ⟨rfl, rfl, rfl⟩ := hcs
    exact ⟨[], Or.inl ⟨_, _, rfl, rfl⟩, fun i m h => by simp at h, _, _, _, rfl, Nat.le_refl _⟩
  · simp [Value.cells] at hcs
    obtain ⟨rfl, rfl, rfl⟩ := hcs
    have hle : len ≤ m := by rw [hmm]; split <;> omega
    by_cases h0 : len = 0
    · subst h0
      exact ⟨[], Or.inl ⟨_, _, rfl, rfl⟩, fun i m h => by simp at h, _, _, _, rfl, hl⟩
    · have each : ∀ i, i < len → ∃ o : Mi, Cp.W32 o.m ∧ ∀ j, j < 6 → w.cell? (y.add (i * 6 + j)) = (cellsM o)[j]? := by
        intro i hi
        obtain ⟨cs, h1, h2⟩ := hx i (by omega)
        rw [cellsOpM] at h1
        obtain ⟨_, hlen, hc⟩ := World.cells?_some h1
        obtain ⟨o, ho, rfl⟩ := open_op hlen h2
        refine ⟨o, ho, fun j hj => ?_⟩
        rw [← Array.getElem?_toList, ← hc j hj, Addr.add_add]
      obtain ⟨b, off, spot⟩ := y
      obtain ⟨o0, -, hc0⟩ := each 0 (by omega)
      have hc1 := hc0 0 (by decide)
      have hs : spot = none := by
        simpa [Addr.add] using World.cell?_spot (v := .int .i64 o0.k) hc1
      subst hs
      have hlt : b < w.heap.size := by
        rw [Addr.add_lit] at hc1
        exact World.block_lt_of_cell? (u := .int .i64 o0.k) _ _ hc1
      obtain ⟨f, hf⟩ := Classical.axiomOfChoice (r := fun (i : Fin len) (o : Mi) => Cp.W32 o.m ∧ ∀ j, j < 6 → w.cell? ((⟨b, off, none⟩ : Addr).add (i.1 * 6 + j)) = (cellsM o)[j]?) (fun i => each i.1 i.2)
      have key : ∀ (i : Nat) (o : Mi), (List.ofFn f)[i]? = some o → ∃ h : i < len, f ⟨i, h⟩ = o := fun i o hi => by
        have hil : i < len := by
          have := (List.getElem?_eq_some_iff.1 hi).1
          rwa [List.length_ofFn] at this
        rw [List.getElem?_eq_getElem (by rw [List.length_ofFn]; exact hil), List.getElem_ofFn] at hi
        injection hi with hi
        exact ⟨hil, hi⟩
      refine ⟨List.ofFn f, Or.inr ⟨b, off, cap, ?_, ?_, hlt, ?_⟩, ?_, _, _, _, rfl, hl⟩
      · rw [List.length_ofFn]
      · rw [List.length_ofFn]; omega
      · intro i o hi j hj
        obtain ⟨hil, rfl⟩ := key i o hi
        have := (hf ⟨i, hil⟩).2 j hj
        rw [Addr.add_lit] at this
        rw [← this, Nat.add_assoc]
      · intro i o hi
        obtain ⟨hil, rfl⟩ := key i o hi
        exact (hf ⟨i, hil⟩).1

theorem okWide_array {r : Reach} {b0 : Nat} {t : TypeId} {n : Nat} {e : TypeId} {v : Value} (ht : Tryz.prog.underlying t = some (.array n e)) (h : Value.okWide Tryz.prog w r b0 t v) : ∃ cs, v = .agg cs ∧ cs.size = Tryz.prog.cellsOf t := by
  simp only [Value.okWide, ht] at h
  obtain ⟨cs, h1, h2, _⟩ := h
  exact ⟨cs, h1, h2⟩

/-- A row of cells that are words is the row of a function. -/
def wordsFn (l : List Value) : Nat → Int := fun k => match l[k]? with | some (.int _ n) => n | _ => 0

theorem open_regs {r : Reach} {b0 : Nat} {v : Value} {x : DataW H} {p : List MemPlace}
    (hv : Value.okWide Tryz.prog w r b0 24 v) (h : DataW.Trod enc Tryz.prog w base spare held 24 v x p) : ∃ R, v = .agg (cellsX R) ∧ ∀ k, Cp.W32 (R k) := by
  obtain ⟨cs, rfl, hsz⟩ := okWide_array Tryz.underlying24 hv
  obtain ⟨fuel, hf⟩ := h
  obtain ⟨xs, m, -, hx, hl, hlen, hf⟩ := DataW.trod_array Tryz.underlying24 hf
  have c1 : Tryz.prog.cellsOf 23 = 1 := by kernel_rfl
  have c32 : Tryz.prog.cellsOf 24 = 32 := by kernel_rfl
  rw [c32] at hl hsz
  rw [c1] at hf
  have each : ∀ j, j < 32 → ∃ n : Int, cs[j]? = some (.int .u32 n) ∧ Cp.W32 n := fun j hj => by
    have hi := hf j (by omega)
    have hlt : j < xs.length := by omega
    rw [List.getElem?_eq_getElem hlt] at hi
    obtain ⟨n, e, -, hn⟩ := DataW.trod_int Tryz.underlying23 hi
    have e0 : ((((Value.agg cs).cells.toList).drop (j * 1)).take 1)[0]? = [Value.int .u32 n][0]? := by rw [e]
    rw [List.getElem?_take_of_lt (by omega), List.getElem?_drop, show j * 1 + 0 = j by omega] at e0
    exact ⟨n, by simpa [Value.cells] using e0, wf_u32 hn⟩
  refine ⟨wordsFn cs.toList, ?_, fun k => ?_⟩
  · congr 1
    apply Array.ext_getElem?
    intro j
    by_cases hj : j < 32
    · obtain ⟨n, e, -⟩ := each j hj
      rw [get_X _ j hj, e, wordsFn]
      simp [e]
    · rw [Array.getElem?_eq_none (by omega), Array.getElem?_eq_none (by have := sizeCX (wordsFn cs.toList); simp [N32] at this; omega)]
  · unfold wordsFn
    by_cases hk : k < 32
    · obtain ⟨n, e, h0⟩ := each k hk
      have e' : cs.toList[k]? = some (.int .u32 n) := by simpa using e
      rw [e']
      exact h0
    · have : cs.toList[k]? = none := by simp; omega
      rw [this]
      exact Cp.w0
end

end Go.Proofs.YtmegghgjllbamaaGreatDoor.Ir
