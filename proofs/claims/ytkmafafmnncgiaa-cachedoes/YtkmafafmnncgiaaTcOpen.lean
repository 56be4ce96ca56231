/- Layer 16: what comes in is opened: words, the calls of a script. -/
import Derived.Test.YtkmafafmnncgiaaTcFixed
import Derived.Test.YtkmafafmnncgiaaTcBlock
import Derived.ProofKit
import Derived.OpenShut
import Derived.ChangeOld
import Derived.Deep.Slices
import Derived.Carry
import Derived.ChangeSame
import Derived.Lib.SmallJoins
namespace Go.Proofs.Ytkmafafmnncgiaa
open Go.ChangeShapes Go.WideShapes Go.ChangeAt Go.RowKit Go.Joins
set_option linter.unusedVariables false
set_option linter.unusedSimpArgs false

theorem own16 : ownKnob Try.prog.godebug = none := by kernel_rfl

theorem laidOut : laidOutB Try.prog = true := by kernel_rfl

theorem wf_u32 {n : Int} (h : (Lit.int .u32 n).wf = true) : W32 n := by
  simp [Lit.wf, IntKind.min, IntKind.max, IntKind.signed, IntKind.bits] at h
  exact ⟨h.1, by omega⟩

theorem wf_i64 {n : Int} (h : (Lit.int .i64 n).wf = true) : -9223372036854775808 ≤ n ∧ n ≤ 9223372036854775807 := by
  simp [Lit.wf, IntKind.min, IntKind.max, IntKind.signed, IntKind.bits] at h
  exact ⟨h.1, by omega⟩

/-- v is the slice of the words l. -/
def IsWords (w : World) (v : Value) (zs : List Int) : Prop :=
  (∃ a c, zs = [] ∧ v = .slice a 0 c) ∨ ∃ b off c, v = .slice (some ⟨b, off, none⟩) zs.length c ∧ zs.length ≤ c ∧ c ≤ maxLen ∧ b < w.heap.size ∧ ∀ (i : Nat) z, zs[i]? = some z → W32 z ∧ w.cell? ⟨b, off + i, none⟩ = some (.int .u32 z)

/-- What is known of a row of words, in one way for all of them. -/
theorem IsWords.open' {w : World} {v : Value} {zs : List Int} (h : IsWords w v zs) :
    ∃ ad n c, v = .slice ad n c ∧ n = zs.length ∧ n ≤ maxLen ∧ (n ≤ c ∨ n = 0) ∧ ∀ (i : Nat) z, zs[i]? = some z → W32 z ∧ ∃ b off, ad = some ⟨b, off, none⟩ ∧ b < w.heap.size ∧ w.cell? ⟨b, off + i, none⟩ = some (.int .u32 z) := by
  rcases h with ⟨a, c, rfl, rfl⟩ | ⟨b, off, c, rfl, hc, hl, hb, hx⟩
  · exact ⟨a, 0, c, rfl, rfl, Nat.zero_le _, Or.inr rfl, fun i z h => by simp at h⟩
  · exact ⟨_, _, c, rfl, rfl, Nat.le_trans hc hl, Or.inl hc, fun i z h => ⟨(hx i z h).1, b, off, rfl, hb, (hx i z h).2⟩⟩

theorem IsWords.on {w y : World} {v : Value} {l : List Int} (h : IsWords w v l) (b : Below w.heap.size w y) : IsWords y v l := by
  rcases h with h | ⟨g, o, c, rfl, hc, hl, hg, hm⟩
  · exact Or.inl h
  · exact Or.inr ⟨g, o, c, rfl, hc, hl, Nat.lt_of_lt_of_le hg b.size, fun i m hi => ⟨(hm i m hi).1, by rw [← (hm i m hi).2]; exact b.cell (p := ⟨g, o + i, none⟩) hg⟩⟩

/-- Where a call of a script lies. -/
def Oc.At (o : Oc) (w : World) (b off : Nat) : Prop := ∀ j, j < 5 → w.cell? ⟨b, off + j, none⟩ = (cellsO o)[j]?

theorem Oc.At.keep {o : Oc} {w w' : World} {b off : Nat} (h : o.At w b off) (e : w'.heap[b]? = w.heap[b]?) : o.At w' b off := fun j hj => by
  rw [World.cell?_of_block (a := ⟨b, off + j, none⟩) e]; exact h j hj

theorem Oc.At.five {o : Oc} {w : World} {b off : Nat} (h : o.At w b off) :
    w.cell? ⟨b, off, none⟩ = some (.int .i64 o.k) ∧ w.cell? ⟨b, off + 1, none⟩ = some (.int .u32 o.p) ∧ w.cell? ⟨b, off + 2, none⟩ = some (.int .i64 o.n) ∧ w.cell? ⟨b, off + 3, none⟩ = some (.int .u32 o.s) ∧ w.cell? ⟨b, off + 4, none⟩ = some (.int .u32 o.m) :=
  ⟨h 0 (by decide), h 1 (by decide), h 2 (by decide), h 3 (by decide), h 4 (by decide)⟩

/-- A row of calls that came in. -/
def IsOcs (w : World) (v : Value) (ops : List Oc) : Prop :=
  (∃ a c, ops = [] ∧ v = .slice a 0 c) ∨ ∃ b off c, v = .slice (some ⟨b, off, none⟩) ops.length c ∧ ops.length ≤ maxLen ∧ b < w.heap.size ∧ ∀ (i : Nat) (o : Oc), ops[i]? = some o → Wo o ∧ o.At w b (off + i * 5)

theorem IsOcs.open' {w : World} {v : Value} {ops : List Oc} (h : IsOcs w v ops) :
    ∃ ad n c, v = .slice ad n c ∧ n = ops.length ∧ n ≤ maxLen ∧ ∀ (i : Nat) o, ops[i]? = some o → Wo o ∧ ∃ b off, ad = some ⟨b, off, none⟩ ∧ b < w.heap.size ∧ o.At w b (off + i * 5) := by
  rcases h with ⟨a, c, rfl, rfl⟩ | ⟨b, off, c, rfl, hl, hb, hx⟩
  · exact ⟨a, 0, c, rfl, rfl, Nat.zero_le _, fun i z h => by simp at h⟩
  · exact ⟨_, _, c, rfl, rfl, hl, fun i z h => ⟨(hx i z h).1, b, off, rfl, hb, (hx i z h).2⟩⟩

section
variable {H : Type} {enc : TypeId × Value → H} {w : World} {base : Nat} {spare : Nat → Bool} {held : Bool}

theorem open_words {r : Reach} {b0 : Nat} {v : Value} {x : DataW H} {p : List MemPlace}
    (hv : Value.okWide Try.prog w r b0 35 v) (h : DataW.Trod enc Try.prog w base spare held 35 v x p) : ∃ zs, IsWords w v zs := by
  obtain ⟨a, len, cap, rfl⟩ := okWide_slice Try.underlying35 hv
  obtain ⟨fuel, hf⟩ := h
  rcases open_ints Try.underlying35 Try.underlying32 (by kernel_rfl) hf with ⟨hcs, _⟩ | ⟨y, l, c, zs, hcs, _, hl, hm, hz, _, hcell, hwz⟩
  · simp [Value.cells] at hcs
    obtain ⟨rfl, rfl, rfl⟩ := hcs
    exact ⟨[], Or.inl ⟨_, _, rfl, rfl⟩⟩
  · simp [Value.cells] at hcs
    obtain ⟨rfl, rfl, rfl⟩ := hcs
    have hle : len ≤ zs.length := by rw [hz]; split <;> omega
    by_cases h0 : len = 0
    · subst h0
      exact ⟨[], Or.inl ⟨_, _, rfl, rfl⟩⟩
    · obtain ⟨b, off, spot⟩ := y
      have hs : spot = none := by simpa [Addr.add] using World.cell?_spot (hcell 0 (by omega))
      subst hs
      refine ⟨zs.take len, Or.inr ⟨b, off, cap, ?_, ?_, hm, ?_, ?_⟩⟩
      · rw [List.length_take, Nat.min_eq_left hle]
      · rw [List.length_take, Nat.min_eq_left hle]; exact hl
      · exact World.block_lt_of_cell? _ _ (hcell 0 (by omega))
      · intro i z hi
        have hil : i < len := by
          have := (List.getElem?_eq_some_iff.1 hi).1
          rw [List.length_take] at this
          omega
        rw [List.getElem?_take_of_lt hil] at hi
        have hc := hcell i (by omega)
        rw [Addr.add_lit, List.getD_eq_getElem?_getD, hi] at hc
        exact ⟨wf_u32 (hwz z (List.mem_of_getElem? hi)), hc⟩

theorem cellsOc : Try.prog.cellsOf 34 = 5 := by kernel_rfl

theorem open_oc {n : Nat} {cs : List Value} {x : DataW H × List MemPlace} (hl : cs.length = 5)
    (h : DataW.trod enc Try.prog w base spare held n 34 cs = some x) : ∃ o : Oc, Wo o ∧ cs = (cellsO o).toList := by
  have u1 : Try.prog.cellsOf 32 = 1 := by kernel_rfl
  have u3 : Try.prog.cellsOf 3 = 1 := by kernel_rfl
  match cs, hl with
  | [c0, c1, c2, c3, c4], _ =>
    obtain ⟨xs, m, -, hx, -, hlen, hf⟩ := DataW.trod_struct Try.underlying34 h
    match xs, hlen, hf, hx with
    | [y0, y1, y2, y3, y4], _, hf, hx =>
      have h0 : DataW.trod enc Try.prog w base spare held m 3 ((([c0, c1, c2, c3, c4] : List Value).drop 0).take (Try.prog.cellsOf 3)) = some y0 := hf 0 _ rfl
      have h1 : DataW.trod enc Try.prog w base spare held m 32 ((([c0, c1, c2, c3, c4] : List Value).drop 1).take (Try.prog.cellsOf 32)) = some y1 := hf 1 _ rfl
      have h2 : DataW.trod enc Try.prog w base spare held m 3 ((([c0, c1, c2, c3, c4] : List Value).drop 2).take (Try.prog.cellsOf 3)) = some y2 := hf 2 _ rfl
      have h3 : DataW.trod enc Try.prog w base spare held m 32 ((([c0, c1, c2, c3, c4] : List Value).drop 3).take (Try.prog.cellsOf 32)) = some y3 := hf 3 _ rfl
      have h4 : DataW.trod enc Try.prog w base spare held m 32 ((([c0, c1, c2, c3, c4] : List Value).drop 4).take (Try.prog.cellsOf 32)) = some y4 := hf 4 _ rfl
      rw [u3] at h0 h2
      rw [u1] at h1 h3 h4
      obtain ⟨a0, e0, -, w0⟩ := DataW.trod_int Try.underlying3 h0
      obtain ⟨a1, e1, -, w1⟩ := DataW.trod_int Try.underlying32 h1
      obtain ⟨a2, e2, -, w2⟩ := DataW.trod_int Try.underlying3 h2
      obtain ⟨a3, e3, -, w3⟩ := DataW.trod_int Try.underlying32 h3
      obtain ⟨a4, e4, -, w4⟩ := DataW.trod_int Try.underlying32 h4
      simp at e0 e1 e2 e3 e4
      subst e0 e1 e2 e3 e4
      exact ⟨⟨a0, a1, a2, a3, a4⟩, ⟨wf_i64 w0, wf_u32 w1, wf_i64 w2, wf_u32 w3, wf_u32 w4⟩, rfl⟩

theorem open_ocs {r : Reach} {b0 : Nat} {v : Value} {x : DataW H} {p : List MemPlace}
    (hv : Value.okWide Try.prog w r b0 22 v) (h : DataW.Trod enc Try.prog w base spare held 22 v x p) : ∃ ops, IsOcs w v ops := by
  obtain ⟨a, len, cap, rfl⟩ := okWide_slice Try.underlying22 hv
  obtain ⟨fuel, hf⟩ := h
  rcases Go.Deep.open_slice Try.underlying22 hf with ⟨hcs, _⟩ | ⟨y, l, c, m, n, D, Pl, hcs, hb, hl, hm, hmm, -, hx⟩
  · simp [Value.cells] at hcs
    obtain ⟨rfl, rfl, rfl⟩ := hcs
    exact ⟨[], Or.inl ⟨_, _, rfl, rfl⟩⟩
  · simp [Value.cells] at hcs
    obtain ⟨rfl, rfl, rfl⟩ := hcs
    have hle : len ≤ m := by rw [hmm]; split <;> omega
    by_cases h0 : len = 0
    · subst h0
      exact ⟨[], Or.inl ⟨_, _, rfl, rfl⟩⟩
    · have each : ∀ i, i < len → ∃ o : Oc, Wo o ∧ ∀ j, j < 5 → w.cell? (y.add (i * 5 + j)) = (cellsO o)[j]? := by
        intro i hi
        obtain ⟨cs, h1, h2⟩ := hx i (by omega)
        rw [cellsOc] at h1
        obtain ⟨_, hlen, hc⟩ := World.cells?_some h1
        obtain ⟨o, ho, rfl⟩ := open_oc hlen h2
        refine ⟨o, ho, fun j hj => ?_⟩
        rw [← Array.getElem?_toList, ← hc j hj, Addr.add_add]
      obtain ⟨b, off, spot⟩ := y
      obtain ⟨o0, -, hc0⟩ := each 0 (by omega)
      have hc1 := hc0 0 (by decide)
      have hs : spot = none := by
        simpa [Addr.add] using World.cell?_spot (v := .int .i64 o0.k) hc1
      subst hs
      have hlt : b < w.heap.size := by
        rw [Addr.add_lit] at hc1
        exact World.block_lt_of_cell? (u := .int .i64 o0.k) _ _ hc1
      obtain ⟨f, hf⟩ := Classical.axiomOfChoice (r := fun (i : Fin len) (o : Oc) => Wo o ∧ ∀ j, j < 5 → w.cell? ((⟨b, off, none⟩ : Addr).add (i.1 * 5 + j)) = (cellsO o)[j]?) (fun i => each i.1 i.2)
      refine ⟨List.ofFn f, Or.inr ⟨b, off, cap, ?_, ?_, hlt, ?_⟩⟩
      · rw [List.length_ofFn]
      · rw [List.length_ofFn]; omega
      · intro i o hi
        have hil : i < len := by
          have := (List.getElem?_eq_some_iff.1 hi).1
          rwa [List.length_ofFn] at this
        rw [List.getElem?_eq_getElem (by rw [List.length_ofFn]; exact hil), List.getElem_ofFn] at hi
        injection hi with hi
        obtain ⟨h1, h2⟩ := hf ⟨i, hil⟩
        rw [hi] at h1 h2
        refine ⟨h1, fun j hj => ?_⟩
        have := h2 j hj
        rw [Addr.add_lit] at this
        rw [Nat.add_assoc]
        exact this

end

end Go.Proofs.Ytkmafafmnncgiaa
