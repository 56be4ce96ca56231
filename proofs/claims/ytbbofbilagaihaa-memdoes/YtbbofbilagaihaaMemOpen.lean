/- What comes in is opened: a row of bytes, a place with its text, a row of calls. -/
import Derived.Test.YtbbofbilagaihaaMemFill
import Derived.ProofKit
import Derived.OpenShut
import Derived.ShutString
import Derived.ChangeOld
import Derived.Deep.Slices
import Derived.Carry
import Derived.Lib.SmallJoins
namespace Go.Proofs.Ytbbofbilagaihaa
open Go.ChangeShapes Go.WideShapes Go.ChangeAt Go.RowKit Go.Joins
set_option linter.unusedVariables false
set_option linter.unusedSimpArgs false

theorem own : ownKnob Try.prog.godebug = none := by kernel_rfl

theorem laidOut : laidOutB Try.prog = true := by kernel_rfl

/-- A row of bytes that came in. -/
def IsBytes (w : World) (v : Value) (zs : List Nat) : Prop :=
  (∃ a c, zs = [] ∧ v = .slice a 0 c) ∨ ∃ b off c, v = .slice (some ⟨b, off, none⟩) zs.length c ∧ zs.length ≤ maxLen ∧ ∀ i z, zs[i]? = some z → z < 256 ∧ w.cell? ⟨b, off + i, none⟩ = some (.int .u8 ((z : Nat) : Int))

theorem open_bytes {H : Type} {enc : TypeId × Value → H} {w : World} {base : Nat} {spare : Nat → Bool} {held : Bool} {r : Reach} {b0 : Nat} {v : Value} {x : DataW H} {p : List MemPlace}
    (hv : Value.okWide Try.prog w r b0 32 v) (h : DataW.Trod enc Try.prog w base spare held 32 v x p) : ∃ zs, IsBytes w v zs := by
  obtain ⟨a, len, cap, rfl⟩ := okWide_slice Try.underlying32 hv
  obtain ⟨fuel, hf⟩ := h
  rcases open_ints Try.underlying32 Try.underlying5 (by kernel_rfl) hf with ⟨hcs, _⟩ | ⟨y, l, c, zs, hcs, _, hl, hm, hz, _, hcell, hwz⟩
  · simp [Value.cells] at hcs
    obtain ⟨rfl, rfl, rfl⟩ := hcs
    exact ⟨[], Or.inl ⟨_, _, rfl, rfl⟩⟩
  · simp [Value.cells] at hcs
    obtain ⟨rfl, rfl, rfl⟩ := hcs
    have hle : len ≤ zs.length := by rw [hz]; split <;> omega
    by_cases h0 : len = 0
    · subst h0
      exact ⟨[], Or.inl ⟨_, _, rfl, rfl⟩⟩
    · obtain ⟨b, off, spot⟩ := y
      have hs : spot = none := by simpa [Addr.add] using World.cell?_spot (hcell 0 (by omega))
      subst hs
      refine ⟨((zs.take len).map Int.toNat), Or.inr ⟨b, off, cap, ?_, ?_, ?_⟩⟩
      · rw [List.length_map, List.length_take, Nat.min_eq_left hle]
      · rw [List.length_map, List.length_take, Nat.min_eq_left hle]; omega
      · intro i z hi
        rw [List.getElem?_map] at hi
        cases e : (zs.take len)[i]? with
        | none => rw [e] at hi; cases hi
        | some u =>
          rw [e] at hi
          simp at hi
          have hil : i < len := by
            have := (List.getElem?_eq_some_iff.1 e).1
            rw [List.length_take] at this
            omega
          rw [List.getElem?_take_of_lt hil] at e
          have hc := hcell i (by omega)
          rw [Addr.add_lit, List.getD_eq_getElem?_getD, e] at hc
          have hw := hwz u (List.mem_of_getElem? e)
          simp [Lit.wf, IntKind.min, IntKind.max, IntKind.signed, IntKind.bits] at hw
          have e2 : ((z : Nat) : Int) = u := by omega
          exact ⟨by omega, by rw [e2]; exact hc⟩

/-- A place that came in: a page's text, an address, a number, a size. -/
theorem open_spot {H : Type} {enc : TypeId × Value → H} {w : World} {base : Nat} {spare : Nat → Bool} {held : Bool} {r : Reach} {b0 : Nat} {v : Value} {x : DataW H} {p : List MemPlace}
    (hv : Value.okWide Try.prog w r b0 54 v) (h : DataW.Trod enc Try.prog w base spare held 54 v x p) :
    ∃ (s : ByteArray) (a n : Nat) (k : Int), v = .agg #[.string s, .int .u32 (a : Int), .int .u32 (n : Int), .int .i64 k] ∧ s.size ≤ maxLen ∧ a < 4294967296 ∧ n < 4294967296 ∧ (Lit.int .i64 k).wf = true := by
  obtain ⟨c0, c1, c2, c3, y0, y1, y2, y3, m, rfl, rfl, rfl, h0, h1, h2, h3⟩ := open_agg4 Try.underlying54 (by kernel_rfl) (by kernel_rfl) hv h
  obtain ⟨s, e0, rfl, ws⟩ := DataW.trod_string Try.underlying9 h0
  obtain ⟨a, e1, rfl, wa⟩ := DataW.trod_int Try.underlying40 h1
  obtain ⟨n, e2, rfl, wn⟩ := DataW.trod_int Try.underlying40 h2
  obtain ⟨k, e3, rfl, wk⟩ := DataW.trod_int Try.underlying3 h3
  simp at e0 e1 e2 e3
  subst e0 e1 e2 e3
  simp [Lit.wf, IntKind.min, IntKind.max, IntKind.signed, IntKind.bits] at wa wn
  refine ⟨s, a.toNat, n.toNat, k, ?_, ws, by omega, by omega, wk⟩
  rw [Int.toNat_of_nonneg (by omega), Int.toNat_of_nonneg (by omega)]

/-- A call of a script. -/
structure Act6 where
  kind : Int
  at' : Nat
  size : Int
  v : Nat
  n : Int
  more : Int

/-- Its numbers fit. -/
structure Act6.Fits (o : Act6) : Prop where
  a : o.at' < 4294967296
  v : o.v < 4294967296
  k0 : -9223372036854775808 ≤ o.kind
  k1 : o.kind ≤ 9223372036854775807
  s0 : -9223372036854775808 ≤ o.size
  s1 : o.size ≤ 9223372036854775807
  n0 : -9223372036854775808 ≤ o.n
  n1 : o.n ≤ 9223372036854775807
  m0 : -9223372036854775808 ≤ o.more
  m1 : o.more ≤ 9223372036854775807

/-- Where it lies. -/
structure Act6.At (o : Act6) (w : World) (b off : Nat) : Prop where
  c0 : w.cell? ⟨b, off, none⟩ = some (.int .i64 o.kind)
  c1 : w.cell? ⟨b, off + 1, none⟩ = some (.int .u32 (o.at' : Int))
  c2 : w.cell? ⟨b, off + 2, none⟩ = some (.int .i64 o.size)
  c3 : w.cell? ⟨b, off + 3, none⟩ = some (.int .u32 (o.v : Int))
  c4 : w.cell? ⟨b, off + 4, none⟩ = some (.int .i64 o.n)
  c5 : w.cell? ⟨b, off + 5, none⟩ = some (.int .i64 o.more)

theorem Act6.At.on {o : Act6} {w w' : World} {b off : Nat} (h : o.At w b off) (hb : Below w.heap.size w w') : o.At w' b off := by
  have hz := cell_in h.c0
  have e : ∀ k, w'.cell? ⟨b, k, none⟩ = w.cell? ⟨b, k, none⟩ := fun k => hb.cell (p := ⟨b, k, none⟩) hz
  exact ⟨by rw [e, h.c0], by rw [e, h.c1], by rw [e, h.c2], by rw [e, h.c3], by rw [e, h.c4], by rw [e, h.c5]⟩

/-- A row of calls that came in. -/
def IsOps (w : World) (v : Value) (ops : List Act6) : Prop :=
  (∃ a c, ops = [] ∧ v = .slice a 0 c) ∨ ∃ b off c, v = .slice (some ⟨b, off, none⟩) ops.length c ∧ ops.length ≤ c ∧ ops.length ≤ maxLen ∧ ∀ (i : Nat) (o : Act6), ops[i]? = some o → o.Fits ∧ o.At w b (off + i * 6)

theorem IsOps.on {w w' : World} {v : Value} {ops : List Act6} (h : IsOps w v ops) (hb : Below w.heap.size w w') : IsOps w' v ops := by
  rcases h with h | ⟨b, off, c, e, hc, hm, hx⟩
  · exact Or.inl h
  · exact Or.inr ⟨b, off, c, e, hc, hm, fun i o hi => ⟨(hx i o hi).1, (hx i o hi).2.on hb⟩⟩

theorem cellsOp : Try.prog.cellsOf 42 = 6 := by kernel_rfl

theorem cells40 : Try.prog.cellsOf 40 = 1 := by kernel_rfl

theorem cells3 : Try.prog.cellsOf 3 = 1 := by kernel_rfl

theorem open_op {H : Type} {enc : TypeId × Value → H} {w : World} {base : Nat} {spare : Nat → Bool} {held : Bool} {n : Nat} {cs : List Value} {x : DataW H × List MemPlace} (hl : cs.length = 6)
    (h : DataW.trod enc Try.prog w base spare held n 42 cs = some x) :
    ∃ o : Act6, o.Fits ∧ cs = [.int .i64 o.kind, .int .u32 (o.at' : Int), .int .i64 o.size, .int .u32 (o.v : Int), .int .i64 o.n, .int .i64 o.more] := by
  match cs, hl with
  | [c0, c1, c2, c3, c4, c5], _ =>
    obtain ⟨xs, m, -, hx, -, hlen, hf⟩ := DataW.trod_struct Try.underlying42 h
    match xs, hlen, hf, hx with
    | [y0, y1, y2, y3, y4, y5], _, hf, hx =>
      have h0 : DataW.trod enc Try.prog w base spare held m 3 ((([c0, c1, c2, c3, c4, c5] : List Value).drop 0).take (Try.prog.cellsOf 3)) = some y0 := hf 0 _ rfl
      have h1 : DataW.trod enc Try.prog w base spare held m 40 ((([c0, c1, c2, c3, c4, c5] : List Value).drop 1).take (Try.prog.cellsOf 40)) = some y1 := hf 1 _ rfl
      have h2 : DataW.trod enc Try.prog w base spare held m 3 ((([c0, c1, c2, c3, c4, c5] : List Value).drop 2).take (Try.prog.cellsOf 3)) = some y2 := hf 2 _ rfl
      have h3 : DataW.trod enc Try.prog w base spare held m 40 ((([c0, c1, c2, c3, c4, c5] : List Value).drop 3).take (Try.prog.cellsOf 40)) = some y3 := hf 3 _ rfl
      have h4 : DataW.trod enc Try.prog w base spare held m 3 ((([c0, c1, c2, c3, c4, c5] : List Value).drop 4).take (Try.prog.cellsOf 3)) = some y4 := hf 4 _ rfl
      have h5 : DataW.trod enc Try.prog w base spare held m 3 ((([c0, c1, c2, c3, c4, c5] : List Value).drop 5).take (Try.prog.cellsOf 3)) = some y5 := hf 5 _ rfl
      rw [cells3] at h0 h2 h4 h5
      rw [cells40] at h1 h3
      obtain ⟨k, e0, -, w0⟩ := DataW.trod_int Try.underlying3 h0
      obtain ⟨a, e1, -, w1⟩ := DataW.trod_int Try.underlying40 h1
      obtain ⟨z, e2, -, w2⟩ := DataW.trod_int Try.underlying3 h2
      obtain ⟨v, e3, -, w3⟩ := DataW.trod_int Try.underlying40 h3
      obtain ⟨u, e4, -, w4⟩ := DataW.trod_int Try.underlying3 h4
      obtain ⟨q, e5, -, w5⟩ := DataW.trod_int Try.underlying3 h5
      simp at e0 e1 e2 e3 e4 e5
      subst e0 e1 e2 e3 e4 e5
      simp [Lit.wf, IntKind.min, IntKind.max, IntKind.signed, IntKind.bits] at w0 w1 w2 w3 w4 w5
      refine ⟨⟨k, a.toNat, z, v.toNat, u, q⟩, ⟨by simp; omega, by simp; omega, w0.1, w0.2, w2.1, w2.2, w4.1, w4.2, w5.1, w5.2⟩, ?_⟩
      simp only [Int.toNat_of_nonneg w1.1, Int.toNat_of_nonneg w3.1]

theorem open_ops {H : Type} {enc : TypeId × Value → H} {w : World} {base : Nat} {spare : Nat → Bool} {held : Bool} {r : Reach} {b0 : Nat} {v : Value} {x : DataW H} {p : List MemPlace}
    (hv : Value.okWide Try.prog w r b0 39 v) (h : DataW.Trod enc Try.prog w base spare held 39 v x p) : ∃ ops, IsOps w v ops := by
  obtain ⟨a, len, cap, rfl⟩ := okWide_slice Try.underlying39 hv
  obtain ⟨fuel, hf⟩ := h
  rcases Go.Deep.open_slice Try.underlying39 hf with ⟨hcs, _⟩ | ⟨y, l, c, m, n, D, Pl, hcs, hb, hl, hm, hmm, -, hx⟩
  · simp [Value.cells] at hcs
    obtain ⟨rfl, rfl, rfl⟩ := hcs
    exact ⟨[], Or.inl ⟨_, _, rfl, rfl⟩⟩
  · simp [Value.cells] at hcs
    obtain ⟨rfl, rfl, rfl⟩ := hcs
    have hle : len ≤ m := by rw [hmm]; split <;> omega
    by_cases h0 : len = 0
    · subst h0
      exact ⟨[], Or.inl ⟨_, _, rfl, rfl⟩⟩
    · have each : ∀ i, i < len → ∃ o : Act6, o.Fits ∧ ∀ j, j < 6 → w.cell? (y.add (i * 6 + j)) = ([.int .i64 o.kind, .int .u32 (o.at' : Int), .int .i64 o.size, .int .u32 (o.v : Int), .int .i64 o.n, .int .i64 o.more] : List Value)[j]? := by
        intro i hi
        obtain ⟨cs, h1, h2⟩ := hx i (by omega)
        rw [cellsOp] at h1
        obtain ⟨_, hlen, hc⟩ := World.cells?_some h1
        obtain ⟨o, ho, rfl⟩ := open_op hlen h2
        refine ⟨o, ho, fun j hj => ?_⟩
        rw [← hc j hj, Addr.add_add]
      obtain ⟨b, off, spot⟩ := y
      have hs : spot = none := by
        obtain ⟨o, -, hc⟩ := each 0 (by omega)
        have := hc 0 (by decide)
        simpa [Addr.add] using World.cell?_spot (v := .int .i64 o.kind) this
      subst hs
      obtain ⟨f, hf⟩ := Classical.axiomOfChoice (r := fun (i : Fin len) (o : Act6) => o.Fits ∧ ∀ j, j < 6 → w.cell? ((⟨b, off, none⟩ : Addr).add (i.1 * 6 + j)) = ([.int .i64 o.kind, .int .u32 (o.at' : Int), .int .i64 o.size, .int .u32 (o.v : Int), .int .i64 o.n, .int .i64 o.more] : List Value)[j]?) (fun i => each i.1 i.2)
      refine ⟨List.ofFn f, Or.inr ⟨b, off, cap, ?_, ?_, ?_, ?_⟩⟩
      · rw [List.length_ofFn]
      · rw [List.length_ofFn]; exact hl
      · rw [List.length_ofFn]; omega
      · intro i o hi
        have hil : i < len := by
          have := (List.getElem?_eq_some_iff.1 hi).1
          rwa [List.length_ofFn] at this
        rw [List.getElem?_eq_getElem (by rw [List.length_ofFn]; exact hil), List.getElem_ofFn] at hi
        injection hi with hi
        obtain ⟨h1, h2⟩ := hf ⟨i, hil⟩
        rw [hi] at h1 h2
        refine ⟨h1, ?_, ?_, ?_, ?_, ?_, ?_⟩
        · have := h2 0 (by decide); rw [Addr.add_lit] at this; exact this
        · have := h2 1 (by decide); rw [Addr.add_lit] at this; exact this
        · have := h2 2 (by decide); rw [Addr.add_lit] at this; exact this
        · have := h2 3 (by decide); rw [Addr.add_lit] at this; exact this
        · have := h2 4 (by decide); rw [Addr.add_lit] at this; exact this
        · have := h2 5 (by decide); rw [Addr.add_lit] at this; exact this

end Go.Proofs.Ytbbofbilagaihaa
