/- Layer 12: what comes in is opened: a row of calls, a row of words. -/
import Derived.Test.YtdapjpbdplhgbaaGreatQBuFixed
import Derived.ProofKit
import Derived.OpenShut
import Derived.ShutString
import Derived.ChangeOld
import Derived.Deep.Slices
import Derived.Carry
import Derived.Lib.SmallJoins
namespace Go.Proofs.YtdapjpbdplhgbaaGreat
open Go.ChangeShapes Go.WideShapes Go.ChangeAt Go.RowKit Go.Joins
set_option linter.unusedVariables false
set_option maxRecDepth 100000
set_option linter.unusedSimpArgs false

theorem own : ownKnob Tryz.prog.godebug = none := by kernel_rfl

theorem laidOut : laidOutB Tryz.prog = true := by kernel_rfl

theorem wf_u32 {n : Int} (h : (Lit.int .u32 n).wf = true) : Dm.W32 n := by
  simp [Lit.wf, IntKind.min, IntKind.max, IntKind.signed, IntKind.bits] at h
  exact ⟨h.1, by omega⟩

theorem wf_i64 {n : Int} (h : (Lit.int .i64 n).wf = true) : -9223372036854775808 ≤ n ∧ n ≤ 9223372036854775807 := by
  simp [Lit.wf, IntKind.min, IntKind.max, IntKind.signed, IntKind.bits] at h
  exact ⟨h.1, by omega⟩

/-- A row of words that came in. -/
def IsWords (w : World) (v : Value) (zs : List Int) : Prop :=
  (∃ a c, zs = [] ∧ v = .slice a 0 c) ∨ ∃ b off c, v = .slice (some ⟨b, off, none⟩) zs.length c ∧ zs.length ≤ maxLen ∧ b < w.heap.size ∧ ∀ (i : Nat) z, zs[i]? = some z → Dm.W32 z ∧ w.cell? ⟨b, off + i, none⟩ = some (.int .u32 z)

/-- What is known of a row of words, in one way for all of them. -/
theorem IsWords.open' {w : World} {v : Value} {zs : List Int} (h : IsWords w v zs) :
    ∃ ad n c, v = .slice ad n c ∧ n = zs.length ∧ n ≤ maxLen ∧ ∀ (i : Nat) z, zs[i]? = some z → Dm.W32 z ∧ ∃ b off, ad = some ⟨b, off, none⟩ ∧ b < w.heap.size ∧ w.cell? ⟨b, off + i, none⟩ = some (.int .u32 z) := by
  rcases h with ⟨a, c, rfl, rfl⟩ | ⟨b, off, c, rfl, hl, hb, hx⟩
  · exact ⟨a, 0, c, rfl, rfl, Nat.zero_le _, fun i z h => by simp at h⟩
  · exact ⟨_, _, c, rfl, rfl, hl, fun i z h => ⟨(hx i z h).1, b, off, rfl, hb, (hx i z h).2⟩⟩

/-- Where a call of a script lies. -/
def Op12.At (o : Op12) (w : World) (b off : Nat) : Prop := ∀ j, j < 7 → w.cell? ⟨b, off + j, none⟩ = (cellsO o)[j]?

theorem Op12.At.keep {o : Op12} {w w' : World} {b off : Nat} (h : o.At w b off) (e : w'.heap[b]? = w.heap[b]?) : o.At w' b off := fun j hj => by
  rw [World.cell?_of_block (a := ⟨b, off + j, none⟩) e]; exact h j hj

theorem Op12.At.seven {o : Op12} {w : World} {b off : Nat} (h : o.At w b off) :
    w.cell? ⟨b, off, none⟩ = some (.int .i64 o.k) ∧ w.cell? ⟨b, off + 1, none⟩ = some (.int .i64 o.z) ∧ w.cell? ⟨b, off + 2, none⟩ = some (.int .u32 o.a) ∧ w.cell? ⟨b, off + 3, none⟩ = some (.int .u32 o.m) ∧
      w.cell? ⟨b, off + 4, none⟩ = some (.int .i64 o.ea) ∧ w.cell? ⟨b, off + 5, none⟩ = some (.int .i64 o.ek) ∧ w.cell? ⟨b, off + 6, none⟩ = some (.int .u32 o.em) :=
  ⟨h 0 (by decide), h 1 (by decide), h 2 (by decide), h 3 (by decide), h 4 (by decide), h 5 (by decide), h 6 (by decide)⟩

/-- A row of calls that came in. -/
def IsOps12 (w : World) (v : Value) (ops : List Op12) : Prop :=
  (∃ a c, ops = [] ∧ v = .slice a 0 c) ∨ ∃ b off c, v = .slice (some ⟨b, off, none⟩) ops.length c ∧ ops.length ≤ maxLen ∧ b < w.heap.size ∧ ∀ (i : Nat) (o : Op12), ops[i]? = some o → o.Fits ∧ o.At w b (off + i * 7)

theorem IsOps12.open' {w : World} {v : Value} {ops : List Op12} (h : IsOps12 w v ops) :
    ∃ ad n c, v = .slice ad n c ∧ n = ops.length ∧ n ≤ maxLen ∧ ∀ (i : Nat) o, ops[i]? = some o → o.Fits ∧ ∃ b off, ad = some ⟨b, off, none⟩ ∧ b < w.heap.size ∧ o.At w b (off + i * 7) := by
  rcases h with ⟨a, c, rfl, rfl⟩ | ⟨b, off, c, rfl, hl, hb, hx⟩
  · exact ⟨a, 0, c, rfl, rfl, Nat.zero_le _, fun i z h => by simp at h⟩
  · exact ⟨_, _, c, rfl, rfl, hl, fun i z h => ⟨(hx i z h).1, b, off, rfl, hb, (hx i z h).2⟩⟩

section
variable {H : Type} {enc : TypeId × Value → H} {w : World} {base : Nat} {spare : Nat → Bool} {held : Bool}

theorem cellsOp12 : Tryz.prog.cellsOf 34 = 7 := by kernel_rfl

theorem open_op12 {n : Nat} {cs : List Value} {x : DataW H × List MemPlace} (hl : cs.length = 7)
    (h : DataW.trod enc Tryz.prog w base spare held n 34 cs = some x) : ∃ o : Op12, o.Fits ∧ cs = (cellsO o).toList := by
  have u1 : Tryz.prog.cellsOf 30 = 1 := by kernel_rfl
  have u3 : Tryz.prog.cellsOf 3 = 1 := by kernel_rfl
  have ue : Tryz.prog.cellsOf 32 = 3 := by kernel_rfl
  match cs, hl with
  | [c0, c1, c2, c3, c4, c5, c6], _ =>
    obtain ⟨xs, m, -, hx, -, hlen, hf⟩ := DataW.trod_struct Tryz.underlying34 h
    match xs, hlen, hf, hx with
    | [y0, y1, y2, y3, y4], _, hf, hx =>
      have h0 : DataW.trod enc Tryz.prog w base spare held m 3 ((([c0, c1, c2, c3, c4, c5, c6] : List Value).drop 0).take (Tryz.prog.cellsOf 3)) = some y0 := hf 0 _ rfl
      have h1 : DataW.trod enc Tryz.prog w base spare held m 3 ((([c0, c1, c2, c3, c4, c5, c6] : List Value).drop 1).take (Tryz.prog.cellsOf 3)) = some y1 := hf 1 _ rfl
      have h2 : DataW.trod enc Tryz.prog w base spare held m 30 ((([c0, c1, c2, c3, c4, c5, c6] : List Value).drop 2).take (Tryz.prog.cellsOf 30)) = some y2 := hf 2 _ rfl
      have h3 : DataW.trod enc Tryz.prog w base spare held m 30 ((([c0, c1, c2, c3, c4, c5, c6] : List Value).drop 3).take (Tryz.prog.cellsOf 30)) = some y3 := hf 3 _ rfl
      have h4 : DataW.trod enc Tryz.prog w base spare held m 32 ((([c0, c1, c2, c3, c4, c5, c6] : List Value).drop 4).take (Tryz.prog.cellsOf 32)) = some y4 := hf 4 _ rfl
      rw [u3] at h0 h1
      rw [u1] at h2 h3
      rw [ue] at h4
      obtain ⟨a0, e0, -, w0⟩ := DataW.trod_int Tryz.underlying3 h0
      obtain ⟨a1, e1, -, w1⟩ := DataW.trod_int Tryz.underlying3 h1
      obtain ⟨a2, e2, -, w2⟩ := DataW.trod_int Tryz.underlying30 h2
      obtain ⟨a3, e3, -, w3⟩ := DataW.trod_int Tryz.underlying30 h3
      simp at e0 e1 e2 e3
      subst e0 e1 e2 e3
      obtain ⟨xs, m', -, hx', -, hlen', hf'⟩ := DataW.trod_struct Tryz.underlying32 h4
      match xs, hlen', hf', hx' with
      | [y5, y6, y7], _, hf', hx' =>
        have g0 : DataW.trod enc Tryz.prog w base spare held m' 3 ((([c4, c5, c6] : List Value).drop 0).take (Tryz.prog.cellsOf 3)) = some y5 := hf' 0 _ rfl
        have g1 : DataW.trod enc Tryz.prog w base spare held m' 3 ((([c4, c5, c6] : List Value).drop 1).take (Tryz.prog.cellsOf 3)) = some y6 := hf' 1 _ rfl
        have g2 : DataW.trod enc Tryz.prog w base spare held m' 30 ((([c4, c5, c6] : List Value).drop 2).take (Tryz.prog.cellsOf 30)) = some y7 := hf' 2 _ rfl
        rw [u3] at g0 g1
        rw [u1] at g2
        obtain ⟨a4, e4, -, w4⟩ := DataW.trod_int Tryz.underlying3 g0
        obtain ⟨a5, e5, -, w5⟩ := DataW.trod_int Tryz.underlying3 g1
        obtain ⟨a6, e6, -, w6⟩ := DataW.trod_int Tryz.underlying30 g2
        simp at e4 e5 e6
        subst e4 e5 e6
        exact ⟨⟨a0, a1, a2, a3, a4, a5, a6⟩, ⟨(wf_u32 w2).1, (wf_u32 w2).2, (wf_u32 w3).1, (wf_u32 w3).2, (wf_u32 w6).1, (wf_u32 w6).2, (wf_i64 w0).1, (wf_i64 w0).2, (wf_i64 w1).1, (wf_i64 w1).2⟩, rfl⟩

theorem open_ops12 {r : Reach} {b0 : Nat} {v : Value} {x : DataW H} {p : List MemPlace}
    (hv : Value.okWide Tryz.prog w r b0 22 v) (h : DataW.Trod enc Tryz.prog w base spare held 22 v x p) : ∃ ops, IsOps12 w v ops := by
  obtain ⟨a, len, cap, rfl⟩ := okWide_slice Tryz.underlying22 hv
  obtain ⟨fuel, hf⟩ := h
  rcases Go.Deep.open_slice Tryz.underlying22 hf with ⟨hcs, _⟩ | ⟨y, l, c, m, n, D, Pl, hcs, hb, hl, hm, hmm, -, hx⟩
  · simp [Value.cells] at hcs
    obtain ⟨rfl, rfl, rfl⟩ := hcs
    exact ⟨[], Or.inl ⟨_, _, rfl, rfl⟩⟩
  · simp [Value.cells] at hcs
    obtain ⟨rfl, rfl, rfl⟩ := hcs
    have hle : len ≤ m := by rw [hmm]; split <;> omega
    by_cases h0 : len = 0
    · subst h0
      exact ⟨[], Or.inl ⟨_, _, rfl, rfl⟩⟩
    · have each : ∀ i, i < len → ∃ o : Op12, o.Fits ∧ ∀ j, j < 7 → w.cell? (y.add (i * 7 + j)) = (cellsO o)[j]? := by
        intro i hi
        obtain ⟨cs, h1, h2⟩ := hx i (by omega)
        rw [cellsOp12] at h1
        obtain ⟨_, hlen, hc⟩ := World.cells?_some h1
        obtain ⟨o, ho, rfl⟩ := open_op12 hlen h2
        refine ⟨o, ho, fun j hj => ?_⟩
        rw [← Array.getElem?_toList, ← hc j hj, Addr.add_add]
      obtain ⟨b, off, spot⟩ := y
      obtain ⟨o0, -, hc0⟩ := each 0 (by omega)
      have hc1 := hc0 0 (by decide)
      have hs : spot = none := by
        simpa [Addr.add] using World.cell?_spot (v := .int .i64 o0.k) hc1
      subst hs
      have hlt : b < w.heap.size := by
        rw [Addr.add_lit] at hc1
        exact World.block_lt_of_cell? (u := .int .i64 o0.k) _ _ hc1
      obtain ⟨f, hf⟩ := Classical.axiomOfChoice (r := fun (i : Fin len) (o : Op12) => o.Fits ∧ ∀ j, j < 7 → w.cell? ((⟨b, off, none⟩ : Addr).add (i.1 * 7 + j)) = (cellsO o)[j]?) (fun i => each i.1 i.2)
      refine ⟨List.ofFn f, Or.inr ⟨b, off, cap, ?_, ?_, hlt, ?_⟩⟩
      · rw [List.length_ofFn]
      · rw [List.length_ofFn]; omega
      · intro i o hi
        have hil : i < len := by
          have := (List.getElem?_eq_some_iff.1 hi).1
          rwa [List.length_ofFn] at this
        rw [List.getElem?_eq_getElem (by rw [List.length_ofFn]; exact hil), List.getElem_ofFn] at hi
        injection hi with hi
        obtain ⟨h1, h2⟩ := hf ⟨i, hil⟩
        rw [hi] at h1 h2
        refine ⟨h1, fun j hj => ?_⟩
        have := h2 j hj
        rw [Addr.add_lit] at this
        rw [Nat.add_assoc]
        exact this

end

end Go.Proofs.YtdapjpbdplhgbaaGreat
