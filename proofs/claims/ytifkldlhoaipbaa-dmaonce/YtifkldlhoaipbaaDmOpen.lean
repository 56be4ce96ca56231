/- Layer 11: what comes in is opened: a state, a job, a row of words. -/
import Derived.Test.YtifkldlhoaipbaaDmFixed
import Derived.ProofKit
import Derived.OpenShut
import Derived.ChangeOld
import Derived.Deep.Slices
import Derived.Carry
import Derived.Lib.SmallJoins
namespace Go.Proofs.Ytifkldlhoaipbaa
open Go.ChangeShapes Go.WideShapes Go.ChangeAt Go.RowKit Go.Joins
set_option linter.unusedVariables false
set_option linter.unusedSimpArgs false

theorem own : ownKnob Try.prog.godebug = none := by kernel_rfl

theorem laidOut : laidOutB Try.prog = true := by kernel_rfl

theorem wf_u32 {n : Int} (h : (Lit.int .u32 n).wf = true) : W32 n := by
  simp [Lit.wf, IntKind.min, IntKind.max, IntKind.signed, IntKind.bits] at h
  exact ⟨h.1, by omega⟩

theorem wf_u8 {n : Int} (h : (Lit.int .u8 n).wf = true) : 0 ≤ n ∧ n < 256 := by
  simp [Lit.wf, IntKind.min, IntKind.max, IntKind.signed, IntKind.bits] at h
  exact ⟨h.1, by omega⟩

theorem wf_i64 {n : Int} (h : (Lit.int .i64 n).wf = true) : -9223372036854775808 ≤ n ∧ n ≤ 9223372036854775807 := by
  simp [Lit.wf, IntKind.min, IntKind.max, IntKind.signed, IntKind.bits] at h
  exact ⟨h.1, by omega⟩

/-- A row of words that came in. -/
def IsWords (w : World) (v : Value) (zs : List Int) : Prop :=
  (∃ a c, zs = [] ∧ v = .slice a 0 c) ∨ ∃ b off c, v = .slice (some ⟨b, off, none⟩) zs.length c ∧ zs.length ≤ maxLen ∧ b < w.heap.size ∧ ∀ (i : Nat) z, zs[i]? = some z → W32 z ∧ w.cell? ⟨b, off + i, none⟩ = some (.int .u32 z)

/-- What is known of a row of words, in one way for all of them. -/
theorem IsWords.open' {w : World} {v : Value} {zs : List Int} (h : IsWords w v zs) :
    ∃ ad n c, v = .slice ad n c ∧ n = zs.length ∧ n ≤ maxLen ∧ ∀ (i : Nat) z, zs[i]? = some z → W32 z ∧ ∃ b off, ad = some ⟨b, off, none⟩ ∧ b < w.heap.size ∧ w.cell? ⟨b, off + i, none⟩ = some (.int .u32 z) := by
  rcases h with ⟨a, c, rfl, rfl⟩ | ⟨b, off, c, rfl, hl, hb, hx⟩
  · exact ⟨a, 0, c, rfl, rfl, Nat.zero_le _, fun i z h => by simp at h⟩
  · exact ⟨_, _, c, rfl, rfl, hl, fun i z h => ⟨(hx i z h).1, b, off, rfl, hb, (hx i z h).2⟩⟩

section
variable {H : Type} {enc : TypeId × Value → H} {w : World} {base : Nat} {spare : Nat → Bool} {held : Bool}

theorem dma_cells {fuel : Nat} {l : List Value} {y : DataW H × List MemPlace} (hn : l.length = 5) (h : DataW.trod enc Try.prog w base spare held fuel 24 l = some y) :
    ∃ t, l = (cellsD t).toList ∧ Wd t := by
  have u1 : Try.prog.cellsOf 22 = 1 := by kernel_rfl
  have u4 : Try.prog.cellsOf 4 = 1 := by kernel_rfl
  match l, hn with
  | [c0, c1, c2, c3, c4], _ =>
    obtain ⟨xs, m, -, hx, -, hlen, hf⟩ := DataW.trod_struct Try.underlying24 h
    match xs, hlen, hf, hx with
    | [y0, y1, y2, y3, y4], _, hf, hx =>
      have h0 : DataW.trod enc Try.prog w base spare held m 22 ((([c0, c1, c2, c3, c4] : List Value).drop 0).take (Try.prog.cellsOf 22)) = some y0 := hf 0 _ rfl
      have h1 : DataW.trod enc Try.prog w base spare held m 22 ((([c0, c1, c2, c3, c4] : List Value).drop 1).take (Try.prog.cellsOf 22)) = some y1 := hf 1 _ rfl
      have h2 : DataW.trod enc Try.prog w base spare held m 22 ((([c0, c1, c2, c3, c4] : List Value).drop 2).take (Try.prog.cellsOf 22)) = some y2 := hf 2 _ rfl
      have h3 : DataW.trod enc Try.prog w base spare held m 22 ((([c0, c1, c2, c3, c4] : List Value).drop 3).take (Try.prog.cellsOf 22)) = some y3 := hf 3 _ rfl
      have h4 : DataW.trod enc Try.prog w base spare held m 4 ((([c0, c1, c2, c3, c4] : List Value).drop 4).take (Try.prog.cellsOf 4)) = some y4 := hf 4 _ rfl
      rw [u1] at h0 h1 h2 h3
      rw [u4] at h4
      obtain ⟨a0, e0, -, w0⟩ := DataW.trod_int Try.underlying22 h0
      obtain ⟨a1, e1, -, w1⟩ := DataW.trod_int Try.underlying22 h1
      obtain ⟨a2, e2, -, w2⟩ := DataW.trod_int Try.underlying22 h2
      obtain ⟨a3, e3, -, w3⟩ := DataW.trod_int Try.underlying22 h3
      obtain ⟨a4, e4, -⟩ := DataW.trod_bool Try.underlying4 h4
      simp at e0 e1 e2 e3 e4
      subst e0 e1 e2 e3 e4
      exact ⟨⟨a0, a1, a2, a3, a4⟩, rfl, ⟨wf_u32 w0, wf_u32 w1, wf_u32 w2, wf_u32 w3⟩⟩

theorem open_dma {r : Reach} {b0 : Nat} {v : Value} {x : DataW H} {p : List MemPlace}
    (hv : Value.okWide Try.prog w r b0 24 v) (h : DataW.Trod enc Try.prog w base spare held 24 v x p) : ∃ q : Dm, v = .agg (cellsD q) ∧ Wd q := by
  obtain ⟨cs, rfl, hsz⟩ := okWide_struct Try.underlying24 hv
  have c5 : Try.prog.cellsOf 24 = 5 := by kernel_rfl
  rw [c5] at hsz
  obtain ⟨fuel, hf⟩ := h
  obtain ⟨q, e, hq⟩ := dma_cells (by simpa [Value.cells] using hsz) hf
  refine ⟨q, ?_, hq⟩
  congr 1
  apply Array.toList_inj.1
  simpa [Value.cells] using e

/-- A job: a state, a way, how many pages, with what they are filled, a disk. -/
structure Jb where
  d : Dm
  y : Int
  n : Int
  c : Nat
  s : ByteArray

structure Wj (j : Jb) : Prop where
  d : Wd j.d
  y : W32 j.y
  n0 : -9223372036854775808 ≤ j.n
  n1 : j.n ≤ 9223372036854775807
  c : j.c < 256
  s : j.s.size ≤ maxLen

def cellsJ (j : Jb) : Array Value := #[.int .u32 j.d.a, .int .u32 j.d.n, .int .u32 j.d.b, .int .u32 j.d.y, .bool j.d.r, .int .u32 j.y, .int .i64 j.n, .int .u8 (j.c : Int), .string j.s]

theorem open_job {r : Reach} {b0 : Nat} {v : Value} {x : DataW H} {p : List MemPlace}
    (hv : Value.okWide Try.prog w r b0 38 v) (h : DataW.Trod enc Try.prog w base spare held 38 v x p) :
    ∃ j : Jb, v = .agg (cellsJ j) ∧ Wj j := by
  obtain ⟨cs, rfl, hsz⟩ := okWide_struct Try.underlying38 hv
  have c9 : Try.prog.cellsOf 38 = 9 := by kernel_rfl
  have c5 : Try.prog.cellsOf 24 = 5 := by kernel_rfl
  have u1 : Try.prog.cellsOf 22 = 1 := by kernel_rfl
  have u3 : Try.prog.cellsOf 3 = 1 := by kernel_rfl
  have u5 : Try.prog.cellsOf 5 = 1 := by kernel_rfl
  have u9 : Try.prog.cellsOf 9 = 1 := by kernel_rfl
  rw [c9] at hsz
  obtain ⟨fuel, hf⟩ := h
  obtain ⟨c, hc⟩ : ∃ c, cs.toList = c := ⟨_, rfl⟩
  have hlen9 : c.length = 9 := by rw [← hc]; simpa using hsz
  simp only [Value.cells, hc] at hf
  match c, hlen9, hf, hc with
  | [c0, c1, c2, c3, c4, c5', c6, c7, c8], _, hf, hc =>
    obtain ⟨xs, m, -, hx, -, hlen, hf⟩ := DataW.trod_struct Try.underlying38 hf
    match xs, hlen, hf, hx with
    | [y0, y1, y2, y3, y4], _, hf, hx =>
      have h0 : DataW.trod enc Try.prog w base spare held m 24 ((([c0, c1, c2, c3, c4, c5', c6, c7, c8] : List Value).drop 0).take (Try.prog.cellsOf 24)) = some y0 := hf 0 _ rfl
      have h1 : DataW.trod enc Try.prog w base spare held m 22 ((([c0, c1, c2, c3, c4, c5', c6, c7, c8] : List Value).drop 5).take (Try.prog.cellsOf 22)) = some y1 := hf 1 _ rfl
      have h2 : DataW.trod enc Try.prog w base spare held m 3 ((([c0, c1, c2, c3, c4, c5', c6, c7, c8] : List Value).drop 6).take (Try.prog.cellsOf 3)) = some y2 := hf 2 _ rfl
      have h3 : DataW.trod enc Try.prog w base spare held m 5 ((([c0, c1, c2, c3, c4, c5', c6, c7, c8] : List Value).drop 7).take (Try.prog.cellsOf 5)) = some y3 := hf 3 _ rfl
      have h4 : DataW.trod enc Try.prog w base spare held m 9 ((([c0, c1, c2, c3, c4, c5', c6, c7, c8] : List Value).drop 8).take (Try.prog.cellsOf 9)) = some y4 := hf 4 _ rfl
      rw [c5] at h0
      rw [u1] at h1
      rw [u3] at h2
      rw [u5] at h3
      rw [u9] at h4
      obtain ⟨t, e0, ht⟩ := dma_cells rfl h0
      obtain ⟨a1, e1, -, w1⟩ := DataW.trod_int Try.underlying22 h1
      obtain ⟨a2, e2, -, w2⟩ := DataW.trod_int Try.underlying3 h2
      obtain ⟨a3, e3, -, w3⟩ := DataW.trod_int Try.underlying5 h3
      obtain ⟨a4, e4, -, w4⟩ := DataW.trod_string Try.underlying9 h4
      simp [cellsD] at e0 e1 e2 e3 e4
      obtain ⟨rfl, rfl, rfl, rfl, rfl⟩ := e0
      subst e1 e2 e3 e4
      obtain ⟨k0, k1⟩ := wf_u8 w3
      obtain ⟨k, rfl⟩ := Int.eq_ofNat_of_zero_le k0
      refine ⟨⟨t, a1, a2, k, a4⟩, ?_, ⟨ht, wf_u32 w1, (wf_i64 w2).1, (wf_i64 w2).2, by show k < 256; omega, w4⟩⟩
      congr 1
      apply Array.toList_inj.1
      rw [hc]
      rfl

theorem open_words {r : Reach} {b0 : Nat} {v : Value} {x : DataW H} {p : List MemPlace}
    (hv : Value.okWide Try.prog w r b0 55 v) (h : DataW.Trod enc Try.prog w base spare held 55 v x p) : ∃ zs, IsWords w v zs := by
  obtain ⟨a, len, cap, rfl⟩ := okWide_slice Try.underlying55 hv
  obtain ⟨fuel, hf⟩ := h
  rcases open_ints Try.underlying55 Try.underlying22 (by kernel_rfl) hf with ⟨hcs, _⟩ | ⟨y, l, c, zs, hcs, _, hl, hm, hz, _, hcell, hwz⟩
  · simp [Value.cells] at hcs
    obtain ⟨rfl, rfl, rfl⟩ := hcs
    exact ⟨[], Or.inl ⟨_, _, rfl, rfl⟩⟩
  · simp [Value.cells] at hcs
    obtain ⟨rfl, rfl, rfl⟩ := hcs
    have hle : len ≤ zs.length := by rw [hz]; split <;> omega
    by_cases h0 : len = 0
    · subst h0
      exact ⟨[], Or.inl ⟨_, _, rfl, rfl⟩⟩
    · obtain ⟨b, off, spot⟩ := y
      have hs : spot = none := by simpa [Addr.add] using World.cell?_spot (hcell 0 (by omega))
      subst hs
      refine ⟨zs.take len, Or.inr ⟨b, off, cap, ?_, ?_, ?_, ?_⟩⟩
      · rw [List.length_take, Nat.min_eq_left hle]
      · rw [List.length_take, Nat.min_eq_left hle]; omega
      · have := World.block_lt_of_cell? _ _ (hcell 0 (by omega))
        exact this
      · intro i z hi
        have hil : i < len := by
          have := (List.getElem?_eq_some_iff.1 hi).1
          rw [List.length_take] at this
          omega
        rw [List.getElem?_take_of_lt hil] at hi
        have hc := hcell i (by omega)
        rw [Addr.add_lit, List.getD_eq_getElem?_getD, hi] at hc
        exact ⟨wf_u32 (hwz z (List.mem_of_getElem? hi)), hc⟩
end

end Go.Proofs.Ytifkldlhoaipbaa
