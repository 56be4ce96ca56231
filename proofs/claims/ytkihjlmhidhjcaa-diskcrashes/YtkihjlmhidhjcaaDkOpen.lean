/- Layer 18: what comes in is opened: a crash, the calls of a script, both with what is flushed. -/
import Derived.Test.YtkihjlmhidhjcaaDkPure
import Derived.ProofKit
import Derived.OpenShut
import Derived.ShutString
import Derived.ChangeOld
import Derived.Deep.Slices
import Derived.Carry
import Derived.ChangeSame
import Derived.Lib.SmallJoins
import Derived.SizedLaws
namespace Go.Proofs.Ytkihjlmhidhjcaa
open Go.ChangeShapes Go.WideShapes Go.ChangeAt Go.RowKit Go.Joins
set_option linter.unusedVariables false
set_option maxRecDepth 100000
set_option linter.unusedSimpArgs false

theorem own16 : ownKnob Try.prog.godebug = none := by kernel_rfl

theorem laidOut : laidOutB Try.prog = true := by kernel_rfl

def I64 (n : Int) : Prop := -9223372036854775808 ≤ n ∧ n ≤ 9223372036854775807

theorem wf_i64 {n : Int} (h : (Lit.int .i64 n).wf = true) : I64 n := by
  simp [Lit.wf, IntKind.min, IntKind.max, IntKind.signed, IntKind.bits] at h
  exact ⟨h.1, by omega⟩

theorem wf_u8 {n : Int} (h : (Lit.int .u8 n).wf = true) : 0 ≤ n ∧ n < 256 := by
  simp [Lit.wf, IntKind.min, IntKind.max, IntKind.signed, IntKind.bits] at h
  exact ⟨h.1, by omega⟩

/-- A crash's cells; its numbers are numbers. -/
def Crs.list (c : Crs) : List Value := [.string c.keep, .int .i64 c.torn, .int .i64 c.bytes]
structure Crs.Ok (c : Crs) : Prop where
  k : c.keep.size ≤ 281474976710656
  t : I64 c.torn
  b : I64 c.bytes

/-- A call of a script. -/
structure Dc where
  k : Int
  n : Int
  f : Int
  m : Int
  c : Crs

def listD (o : Dc) : List Value := [.int .i64 o.k, .int .i64 o.n, .int .u8 o.f, .int .i64 o.m, .string o.c.keep, .int .i64 o.c.torn, .int .i64 o.c.bytes]
structure Dc.Ok (o : Dc) : Prop where
  k : I64 o.k
  n : I64 o.n
  f : 0 ≤ o.f ∧ o.f < 256
  m : I64 o.m
  c : o.c.Ok

/-- Where a call of a script lies. -/
def Dc.At (o : Dc) (w : World) (b off : Nat) : Prop := ∀ j, j < 7 → w.cell? ⟨b, off + j, none⟩ = (listD o)[j]?

theorem Dc.At.keep {o : Dc} {w w' : World} {b off : Nat} (h : o.At w b off) (e : w'.heap[b]? = w.heap[b]?) : o.At w' b off := fun j hj => by
  rw [World.cell?_of_block (a := ⟨b, off + j, none⟩) e]; exact h j hj

theorem Dc.At.seven {o : Dc} {w : World} {b off : Nat} (h : o.At w b off) :
    w.cell? ⟨b, off, none⟩ = some (.int .i64 o.k) ∧ w.cell? ⟨b, off + 1, none⟩ = some (.int .i64 o.n) ∧ w.cell? ⟨b, off + 2, none⟩ = some (.int .u8 o.f) ∧ w.cell? ⟨b, off + 3, none⟩ = some (.int .i64 o.m) ∧ w.cell? ⟨b, off + 4, none⟩ = some (.string o.c.keep) ∧
      w.cell? ⟨b, off + 5, none⟩ = some (.int .i64 o.c.torn) ∧ w.cell? ⟨b, off + 6, none⟩ = some (.int .i64 o.c.bytes) :=
  ⟨h 0 (by decide), h 1 (by decide), h 2 (by decide), h 3 (by decide), h 4 (by decide), h 5 (by decide), h 6 (by decide)⟩

/-- A row of calls that came in. -/
def IsDcs (w : World) (v : Value) (ops : List Dc) : Prop :=
  (∃ a c, ops = [] ∧ v = .slice a 0 c) ∨ ∃ b off c, v = .slice (some ⟨b, off, none⟩) ops.length c ∧ ops.length ≤ maxLen ∧ b < w.heap.size ∧ ∀ (i : Nat) (o : Dc), ops[i]? = some o → o.Ok ∧ o.At w b (off + i * 7)

theorem IsDcs.open' {w : World} {v : Value} {ops : List Dc} (h : IsDcs w v ops) :
    ∃ ad n c, v = .slice ad n c ∧ n = ops.length ∧ n ≤ maxLen ∧ ∀ (i : Nat) o, ops[i]? = some o → o.Ok ∧ ∃ b off, ad = some ⟨b, off, none⟩ ∧ b < w.heap.size ∧ o.At w b (off + i * 7) := by
  rcases h with ⟨a, c, rfl, rfl⟩ | ⟨b, off, c, rfl, hl, hb, hx⟩
  · exact ⟨a, 0, c, rfl, rfl, Nat.zero_le _, fun i z h => by simp at h⟩
  · exact ⟨_, _, c, rfl, rfl, hl, fun i z h => ⟨(hx i z h).1, b, off, rfl, hb, (hx i z h).2⟩⟩

section
variable {H : Type} {enc : TypeId × Value → H} {w : World} {base : Nat} {spare : Nat → Bool} {held : Bool}

/-- What is read is no longer than the form lets it be. -/
def Light (t : TypeId) (d : DataW H) : Prop := ∀ n ∈ d.weights Try.prog t, n ≤ reachBytes

theorem light_all {e : TypeId} : ∀ {l : List (DataW H)} {d : DataW H} {n : Nat}, d ∈ l → n ∈ d.weights Try.prog e → n ∈ DataW.weightsAll Try.prog e l
  | x :: l, d, n, hd, hn => by
    simp only [DataW.weightsAll, List.mem_append]
    rcases List.mem_cons.1 hd with rfl | h
    · exact .inl hn
    · exact .inr (light_all h hn)

theorem crash_cells {fuel : Nat} {l : List Value} {y : DataW H × List MemPlace} (hn : l.length = 3) (h : DataW.trod enc Try.prog w base spare held fuel 38 l = some y) (hz : Light 38 y.1) :
    ∃ c : Crs, l = c.list ∧ c.Ok := by
  have u9 : Try.prog.cellsOf 9 = 1 := by kernel_rfl
  have u3 : Try.prog.cellsOf 3 = 1 := by kernel_rfl
  match l, hn with
  | [d0, d1, d2], _ =>
    obtain ⟨xs, m, -, hx, -, hlen, hf⟩ := DataW.trod_struct Try.underlying38 h
    match xs, hlen, hf, hx with
    | [y0, y1, y2], _, hf, hx =>
      have h0 : DataW.trod enc Try.prog w base spare held m 9 ((([d0, d1, d2] : List Value).drop 0).take (Try.prog.cellsOf 9)) = some y0 := hf 0 _ rfl
      have h1 : DataW.trod enc Try.prog w base spare held m 3 ((([d0, d1, d2] : List Value).drop 1).take (Try.prog.cellsOf 3)) = some y1 := hf 1 _ rfl
      have h2 : DataW.trod enc Try.prog w base spare held m 3 ((([d0, d1, d2] : List Value).drop 2).take (Try.prog.cellsOf 3)) = some y2 := hf 2 _ rfl
      rw [u9] at h0
      rw [u3] at h1 h2
      obtain ⟨a0, e0, x0, w0⟩ := DataW.trod_string Try.underlying9 h0
      obtain ⟨a1, e1, -, w1⟩ := DataW.trod_int Try.underlying3 h1
      obtain ⟨a2, e2, -, w2⟩ := DataW.trod_int Try.underlying3 h2
      have hk : a0.size ≤ 281474976710656 := by
        have := hz a0.data.toList.length (by rw [hx, x0]; simp [DataW.weights, DataW.weightsEach, Try.underlying38])
        rw [Array.length_toList] at this
        exact Nat.le_trans this (by decide)
      simp at e0 e1 e2
      subst e0 e1 e2
      exact ⟨⟨a0, a1, a2⟩, rfl, hk, wf_i64 w1, wf_i64 w2⟩

theorem open_crash {r : Reach} {b0 : Nat} {v : Value} {x : DataW H} {p : List MemPlace}
    (hv : Value.okWide Try.prog w r b0 38 v) (h : DataW.Trod enc Try.prog w base spare held 38 v x p) (hz : Light 38 x) : ∃ c : Crs, v = .agg c.list.toArray ∧ c.Ok := by
  obtain ⟨cs, rfl, hsz⟩ := okWide_struct Try.underlying38 hv
  have c3 : Try.prog.cellsOf 38 = 3 := by kernel_rfl
  rw [c3] at hsz
  obtain ⟨fuel, hf⟩ := h
  simp only [Value.cells] at hf
  obtain ⟨c, hc, ok⟩ := crash_cells (by simpa using hsz) hf hz
  exact ⟨c, by rw [← hc], ok⟩

theorem cellsDc : Try.prog.cellsOf 40 = 7 := by kernel_rfl

theorem open_dc {n : Nat} {cs : List Value} {x : DataW H × List MemPlace} (hl : cs.length = 7)
    (h : DataW.trod enc Try.prog w base spare held n 40 cs = some x) (hz : Light 40 x.1) : ∃ o : Dc, o.Ok ∧ cs = listD o := by
  have u3 : Try.prog.cellsOf 3 = 1 := by kernel_rfl
  have u5 : Try.prog.cellsOf 5 = 1 := by kernel_rfl
  have uc : Try.prog.cellsOf 38 = 3 := by kernel_rfl
  match cs, hl with
  | [c0, c1, c2, c3, c4, c5, c6], _ =>
    obtain ⟨xs, m, -, hx, -, hlen, hf⟩ := DataW.trod_struct Try.underlying40 h
    match xs, hlen, hf, hx with
    | [y0, y1, y2, y3, y4], _, hf, hx =>
      have h0 : DataW.trod enc Try.prog w base spare held m 3 ((([c0, c1, c2, c3, c4, c5, c6] : List Value).drop 0).take (Try.prog.cellsOf 3)) = some y0 := hf 0 _ rfl
      have h1 : DataW.trod enc Try.prog w base spare held m 3 ((([c0, c1, c2, c3, c4, c5, c6] : List Value).drop 1).take (Try.prog.cellsOf 3)) = some y1 := hf 1 _ rfl
      have h2 : DataW.trod enc Try.prog w base spare held m 5 ((([c0, c1, c2, c3, c4, c5, c6] : List Value).drop 2).take (Try.prog.cellsOf 5)) = some y2 := hf 2 _ rfl
      have h3 : DataW.trod enc Try.prog w base spare held m 3 ((([c0, c1, c2, c3, c4, c5, c6] : List Value).drop 3).take (Try.prog.cellsOf 3)) = some y3 := hf 3 _ rfl
      have h4 : DataW.trod enc Try.prog w base spare held m 38 ((([c0, c1, c2, c3, c4, c5, c6] : List Value).drop 4).take (Try.prog.cellsOf 38)) = some y4 := hf 4 _ rfl
      rw [u3] at h0 h1 h3
      rw [u5] at h2
      rw [uc] at h4
      obtain ⟨a0, e0, -, w0⟩ := DataW.trod_int Try.underlying3 h0
      obtain ⟨a1, e1, -, w1⟩ := DataW.trod_int Try.underlying3 h1
      obtain ⟨a2, e2, -, w2⟩ := DataW.trod_int Try.underlying5 h2
      obtain ⟨a3, e3, -, w3⟩ := DataW.trod_int Try.underlying3 h3
      have hz4 : Light 38 y4.1 := fun n hn => hz n (by rw [hx]; simp [DataW.weights, DataW.weightsEach, Try.underlying40, hn])
      obtain ⟨c, ec, wc⟩ := crash_cells rfl h4 hz4
      simp at e0 e1 e2 e3
      subst e0 e1 e2 e3
      simp only [List.drop, List.take, Crs.list, List.cons.injEq, and_true] at ec
      obtain ⟨rfl, rfl, rfl⟩ := ec
      exact ⟨⟨a0, a1, a2, a3, c⟩, ⟨wf_i64 w0, wf_i64 w1, wf_u8 w2, wf_i64 w3, wc⟩, rfl⟩

theorem dcs_of {fuel : Nat} {v : Value} {y : DataW H × List MemPlace} (hf : DataW.trod enc Try.prog w base spare held fuel 34 [v] = some y) (hz : Light 34 y.1) : ∃ ops, IsDcs w v ops := by
  rcases Go.Deep.open_slice Try.underlying34 hf with ⟨hcs, _⟩ | ⟨y, len, cap, m, n, D, Pl, hcs, hb, hl, hm, hmm, hyx, hx⟩
  · simp at hcs
    subst hcs
    exact ⟨[], Or.inl ⟨_, _, rfl, rfl⟩⟩
  · simp at hcs
    subst hcs
    have hle : len ≤ m := by rw [hmm]; split <;> omega
    by_cases h0 : len = 0
    · subst h0
      exact ⟨[], Or.inl ⟨_, _, rfl, rfl⟩⟩
    · have each : ∀ i, i < len → ∃ o : Dc, o.Ok ∧ ∀ j, j < 7 → w.cell? (y.add (i * 7 + j)) = (listD o)[j]? := by
        intro i hi
        obtain ⟨cs, h1, h2⟩ := hx i (by omega)
        rw [cellsDc] at h1
        obtain ⟨_, hlen, hc⟩ := World.cells?_some h1
        have hzi : Light 40 (D i) := fun n hn => hz n (by
          rw [hyx]
          simp only [DataW.weights, Try.underlying34]
          exact List.mem_cons_of_mem _ (List.mem_append_left _ (light_all (List.mem_map.2 ⟨i, List.mem_range.2 hi, rfl⟩) hn)))
        obtain ⟨o, ho, rfl⟩ := open_dc hlen h2 hzi
        refine ⟨o, ho, fun j hj => ?_⟩
        rw [← hc j hj, Addr.add_add]
      obtain ⟨b, off, spot⟩ := y
      obtain ⟨o0, -, hc0⟩ := each 0 (by omega)
      have hc1 := hc0 0 (by decide)
      have hs : spot = none := by
        simpa [Addr.add] using World.cell?_spot (v := .int .i64 o0.k) hc1
      subst hs
      have hlt : b < w.heap.size := by
        rw [Addr.add_lit] at hc1
        exact World.block_lt_of_cell? (u := .int .i64 o0.k) _ _ hc1
      obtain ⟨f, hf⟩ := Classical.axiomOfChoice (r := fun (i : Fin len) (o : Dc) => o.Ok ∧ ∀ j, j < 7 → w.cell? ((⟨b, off, none⟩ : Addr).add (i.1 * 7 + j)) = (listD o)[j]?) (fun i => each i.1 i.2)
      refine ⟨List.ofFn f, Or.inr ⟨b, off, cap, ?_, ?_, hlt, ?_⟩⟩
      · rw [List.length_ofFn]
      · rw [List.length_ofFn]; omega
      · intro i o hi
        have hil : i < len := by
          have := (List.getElem?_eq_some_iff.1 hi).1
          rwa [List.length_ofFn] at this
        rw [List.getElem?_eq_getElem (by rw [List.length_ofFn]; exact hil), List.getElem_ofFn] at hi
        injection hi with hi
        obtain ⟨h1, h2⟩ := hf ⟨i, hil⟩
        rw [hi] at h1 h2
        refine ⟨h1, fun j hj => ?_⟩
        have := h2 j hj
        rw [Addr.add_lit] at this
        rw [Nat.add_assoc]
        exact this

theorem open_dcs {r : Reach} {b0 : Nat} {v : Value} {x : DataW H} {p : List MemPlace}
    (hv : Value.okWide Try.prog w r b0 34 v) (h : DataW.Trod enc Try.prog w base spare held 34 v x p) (hz : Light 34 x) : ∃ ops, IsDcs w v ops := by
  obtain ⟨a, len, cap, rfl⟩ := okWide_slice Try.underlying34 hv
  obtain ⟨fuel, hf⟩ := h
  exact dcs_of (v := .slice a len cap) hf hz

/-- Sectors, what is flushed, what is loose, a crash. -/
def listT (n : Int) (sv lv : Value) (c : Crs) : List Value := [.int .i64 n, sv, lv, .string c.keep, .int .i64 c.torn, .int .i64 c.bytes]

theorem open_tear {r : Reach} {b0 : Nat} {v : Value} {x : DataW H} {p : List MemPlace}
    (hv : Value.okWide Try.prog w r b0 53 v) (h : DataW.Trod enc Try.prog w base spare held 53 v x p) (hz : Light 53 x) :
    ∃ (n : Int) (sv lv : Value) (so lo : List Dc) (c : Crs), v = .agg (listT n sv lv c).toArray ∧ I64 n ∧ IsDcs w sv so ∧ IsDcs w lv lo ∧ c.Ok := by
  obtain ⟨cs, rfl, hsz⟩ := okWide_struct Try.underlying53 hv
  have c6 : Try.prog.cellsOf 53 = 6 := by kernel_rfl
  have u3 : Try.prog.cellsOf 3 = 1 := by kernel_rfl
  have uo : Try.prog.cellsOf 34 = 1 := by kernel_rfl
  have uc : Try.prog.cellsOf 38 = 3 := by kernel_rfl
  rw [c6] at hsz
  obtain ⟨fuel, hf⟩ := h
  simp only [Value.cells] at hf
  have hl : cs.toList.length = 6 := by simpa using hsz
  generalize hcl : cs.toList = l at *
  match l, hl, hf, hcl with
  | [d0, d1, d2, d3, d4, d5], _, hf, hcl =>
    obtain ⟨xs, m, -, hx, -, hlen, hf⟩ := DataW.trod_struct Try.underlying53 hf
    match xs, hlen, hf, hx with
    | [y0, y1, y2, y3], _, hf, hx =>
      have h0 : DataW.trod enc Try.prog w base spare held m 3 ((([d0, d1, d2, d3, d4, d5] : List Value).drop 0).take (Try.prog.cellsOf 3)) = some y0 := hf 0 _ rfl
      have h1 : DataW.trod enc Try.prog w base spare held m 34 ((([d0, d1, d2, d3, d4, d5] : List Value).drop 1).take (Try.prog.cellsOf 34)) = some y1 := hf 1 _ rfl
      have h2 : DataW.trod enc Try.prog w base spare held m 34 ((([d0, d1, d2, d3, d4, d5] : List Value).drop 2).take (Try.prog.cellsOf 34)) = some y2 := hf 2 _ rfl
      have h3 : DataW.trod enc Try.prog w base spare held m 38 ((([d0, d1, d2, d3, d4, d5] : List Value).drop 3).take (Try.prog.cellsOf 38)) = some y3 := hf 3 _ rfl
      rw [u3] at h0
      rw [uo] at h1 h2
      rw [uc] at h3
      obtain ⟨a0, e0, -, w0⟩ := DataW.trod_int Try.underlying3 h0
      have hz1 : Light 34 y1.1 := fun n hn => hz n (by rw [(Prod.mk.inj hx).1]; simp [DataW.weights, DataW.weightsEach, Try.underlying53, hn])
      have hz2 : Light 34 y2.1 := fun n hn => hz n (by rw [(Prod.mk.inj hx).1]; simp [DataW.weights, DataW.weightsEach, Try.underlying53, hn])
      have hz3 : Light 38 y3.1 := fun n hn => hz n (by rw [(Prod.mk.inj hx).1]; simp [DataW.weights, DataW.weightsEach, Try.underlying53, hn])
      obtain ⟨so, hs⟩ := dcs_of h1 hz1
      obtain ⟨lo, hlo⟩ := dcs_of h2 hz2
      obtain ⟨c, ec, wc⟩ := crash_cells rfl h3 hz3
      simp at e0
      subst e0
      simp only [List.drop, List.take, Crs.list, List.cons.injEq, and_true] at ec
      obtain ⟨rfl, rfl, rfl⟩ := ec
      exact ⟨a0, d1, d2, so, lo, c, by congr 1; apply Array.toList_inj.1; rw [hcl]; rfl, wf_i64 w0, hs, hlo, wc⟩

end

end Go.Proofs.Ytkihjlmhidhjcaa
