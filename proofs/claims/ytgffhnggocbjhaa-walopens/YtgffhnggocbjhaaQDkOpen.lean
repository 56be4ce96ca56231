/- Layer 18: what comes in is opened: a crash, the calls of a script, both with what is flushed. -/
import Derived.Test.YtgffhnggocbjhaaQDkBas
import Derived.ProofKit
import Derived.OpenShut
import Derived.ShutString
import Derived.ChangeOld
import Derived.Deep.Slices
import Derived.Carry
import Derived.ChangeSame
import Derived.Lib.SmallJoins
import Derived.SizedLaws
namespace Go.Proofs.Ytgffhnggocbjhaa
open Go.ChangeShapes Go.WideShapes Go.ChangeAt Go.RowKit Go.Joins
set_option linter.unusedVariables false
set_option maxRecDepth 100000
set_option linter.unusedSimpArgs false

theorem own16 : ownKnob Try.prog.godebug = none := by kernel_rfl

theorem laidOut : laidOutB Try.prog = true := by kernel_rfl

def I64 (n : Int) : Prop := -9223372036854775808 ≤ n ∧ n ≤ 9223372036854775807

theorem wf_i64 {n : Int} (h : (Lit.int .i64 n).wf = true) : I64 n := by
  simp [Lit.wf, IntKind.min, IntKind.max, IntKind.signed, IntKind.bits] at h
  exact ⟨h.1, by omega⟩

theorem wf_u8 {n : Int} (h : (Lit.int .u8 n).wf = true) : 0 ≤ n ∧ n < 256 := by
  simp [Lit.wf, IntKind.min, IntKind.max, IntKind.signed, IntKind.bits] at h
  exact ⟨h.1, by omega⟩

/-- A crash's cells; its numbers are numbers. -/
def Crs.list (c : Crs) : List Value := [.string c.keep, .int .i64 c.torn, .int .i64 c.bytes]
structure Crs.Ok (c : Crs) : Prop where
  k : c.keep.size ≤ 281474976710656
  t : I64 c.torn
  b : I64 c.bytes

/-- A call of a script. -/
structure Dc where
  k : Int
  n : Int
  f : Int
  m : Int
  c : Crs

def listD (o : Dc) : List Value := [.int .i64 o.k, .int .i64 o.n, .int .u8 o.f, .int .i64 o.m, .string o.c.keep, .int .i64 o.c.torn, .int .i64 o.c.bytes]
structure Dc.Ok (o : Dc) : Prop where
  k : I64 o.k
  n : I64 o.n
  f : 0 ≤ o.f ∧ o.f < 256
  m : I64 o.m
  c : o.c.Ok

/-- Where a call of a script lies. -/
def Dc.At (o : Dc) (w : World) (b off : Nat) : Prop := ∀ j, j < 7 → w.cell? ⟨b, off + j, none⟩ = (listD o)[j]?

theorem Dc.At.keep {o : Dc} {w w' : World} {b off : Nat} (h : o.At w b off) (e : w'.heap[b]? = w.heap[b]?) : o.At w' b off := fun j hj => by
  rw [World.cell?_of_block (a := ⟨b, off + j, none⟩) e]; exact h j hj

theorem Dc.At.seven {o : Dc} {w : World} {b off : Nat} (h : o.At w b off) :
    w.cell? ⟨b, off, none⟩ = some (.int .i64 o.k) ∧ w.cell? ⟨b, off + 1, none⟩ = some (.int .i64 o.n) ∧ w.cell? ⟨b, off + 2, none⟩ = some (.int .u8 o.f) ∧ w.cell? ⟨b, off + 3, none⟩ = some (.int .i64 o.m) ∧ w.cell? ⟨b, off + 4, none⟩ = some (.string o.c.keep) ∧
      w.cell? ⟨b, off + 5, none⟩ = some (.int .i64 o.c.torn) ∧ w.cell? ⟨b, off + 6, none⟩ = some (.int .i64 o.c.bytes) :=
  ⟨h 0 (by decide), h 1 (by decide), h 2 (by decide), h 3 (by decide), h 4 (by decide), h 5 (by decide), h 6 (by decide)⟩

/-- A row of calls that came in. -/
def IsDcs (w : World) (v : Value) (ops : List Dc) : Prop :=
  (∃ a c, ops = [] ∧ v = .slice a 0 c) ∨ ∃ b off c, v = .slice (some ⟨b, off, none⟩) ops.length c ∧ ops.length ≤ maxLen ∧ b < w.heap.size ∧ ∀ (i : Nat) (o : Dc), ops[i]? = some o → o.Ok ∧ o.At w b (off + i * 7)

theorem IsDcs.open' {w : World} {v : Value} {ops : List Dc} (h : IsDcs w v ops) :
    ∃ ad n c, v = .slice ad n c ∧ n = ops.length ∧ n ≤ maxLen ∧ ∀ (i : Nat) o, ops[i]? = some o → o.Ok ∧ ∃ b off, ad = some ⟨b, off, none⟩ ∧ b < w.heap.size ∧ o.At w b (off + i * 7) := by
  rcases h with ⟨a, c, rfl, rfl⟩ | ⟨b, off, c, rfl, hl, hb, hx⟩
  · exact ⟨a, 0, c, rfl, rfl, Nat.zero_le _, fun i z h => by simp at h⟩
  · exact ⟨_, _, c, rfl, rfl, hl, fun i z h => ⟨(hx i z h).1, b, off, rfl, hb, (hx i z h).2⟩⟩

section
variable {H : Type} {enc : TypeId × Value → H} {w : World} {base : Nat} {spare : Nat → Bool} {held : Bool}

/-- What is read is no longer than the form lets it be. -/
def Light (t : TypeId) (d : DataW H) : Prop := ∀ n ∈ d.weights Try.prog t, n ≤ reachBytes

theorem light_all {e : TypeId} : ∀ {l : List (DataW H)} {d : DataW H} {n : Nat}, d ∈ l → n ∈ d.weights Try.prog e → n ∈ DataW.weightsAll Try.prog e l
  | x :: l, d, n, hd, hn => by
    simp only [DataW.weightsAll, List.mem_append]
    rcases List.mem_cons.1 hd with rfl | h
    · exact .inl hn
    · exact .inr (light_all h hn)

theorem crash_cells {fuel : Nat} {l : List Value} {y : DataW H × List MemPlace} (hn : l.length = 3) (h : DataW.trod enc Try.prog w base spare held fuel 31 l = some y) (hz : Light 31 y.1) :
    ∃ c : Crs, l = c.list ∧ c.Ok := by
  have u9 : Try.prog.cellsOf 9 = 1 := by kernel_rfl
  have u3 : Try.prog.cellsOf 3 = 1 := by kernel_rfl
  match l, hn with
  | [d0, d1, d2], _ =>
    obtain ⟨xs, m, -, hx, -, hlen, hf⟩ := DataW.trod_struct Try.underlying31 h
    match xs, hlen, hf, hx with
    | [y0, y1, y2], _, hf, hx =>
      have h0 : DataW.trod enc Try.prog w base spare held m 9 ((([d0, d1, d2] : List Value).drop 0).take (Try.prog.cellsOf 9)) = some y0 := hf 0 _ rfl
      have h1 : DataW.trod enc Try.prog w base spare held m 3 ((([d0, d1, d2] : List Value).drop 1).take (Try.prog.cellsOf 3)) = some y1 := hf 1 _ rfl
      have h2 : DataW.trod enc Try.prog w base spare held m 3 ((([d0, d1, d2] : List Value).drop 2).take (Try.prog.cellsOf 3)) = some y2 := hf 2 _ rfl
      rw [u9] at h0
      rw [u3] at h1 h2
      obtain ⟨a0, e0, x0, w0⟩ := DataW.trod_string Try.underlying9 h0
      obtain ⟨a1, e1, -, w1⟩ := DataW.trod_int Try.underlying3 h1
      obtain ⟨a2, e2, -, w2⟩ := DataW.trod_int Try.underlying3 h2
      have hk : a0.size ≤ 281474976710656 := by
        have := hz a0.data.toList.length (by rw [hx, x0]; simp [DataW.weights, DataW.weightsEach, Try.underlying31])
        rw [Array.length_toList] at this
        exact Nat.le_trans this (by decide)
      simp at e0 e1 e2
      subst e0 e1 e2
      exact ⟨⟨a0, a1, a2⟩, rfl, hk, wf_i64 w1, wf_i64 w2⟩

theorem open_crash {r : Reach} {b0 : Nat} {v : Value} {x : DataW H} {p : List MemPlace}
    (hv : Value.okWide Try.prog w r b0 31 v) (h : DataW.Trod enc Try.prog w base spare held 31 v x p) (hz : Light 31 x) : ∃ c : Crs, v = .agg c.list.toArray ∧ c.Ok := by
  obtain ⟨cs, rfl, hsz⟩ := okWide_struct Try.underlying31 hv
  have c3 : Try.prog.cellsOf 31 = 3 := by kernel_rfl
  rw [c3] at hsz
  obtain ⟨fuel, hf⟩ := h
  simp only [Value.cells] at hf
  obtain ⟨c, hc, ok⟩ := crash_cells (by simpa using hsz) hf hz
  exact ⟨c, by rw [← hc], ok⟩

/-- Sectors, what is flushed, what is loose, a crash. -/
def listT (n : Int) (sv lv : Value) (c : Crs) : List Value := [.int .i64 n, sv, lv, .string c.keep, .int .i64 c.torn, .int .i64 c.bytes]

end

end Go.Proofs.Ytgffhnggocbjhaa
