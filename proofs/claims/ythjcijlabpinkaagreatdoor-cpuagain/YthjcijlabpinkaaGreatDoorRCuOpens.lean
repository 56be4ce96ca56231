/- Layer 13: what comes in is opened: a state, a world of the statements. -/
import Derived.Test.YthjcijlabpinkaaGreatDoorRCuLaid
import Derived.ProofKit
import Derived.OpenShut
import Derived.ChangeOld
import Derived.Deep.Slices
import Derived.Carry
import Derived.ChangeSame
import Derived.Lib.SmallJoins
namespace Go.Proofs.YthjcijlabpinkaaGreatDoor
open Go.ChangeShapes Go.WideShapes Go.ChangeAt Go.RowKit Go.Joins
set_option linter.unusedVariables false
set_option maxRecDepth 100000
set_option linter.unusedSimpArgs false

theorem wf_u32c {n : Int} (h : (Lit.int .u32 n).wf = true) : Cp.W32 n := by
  simp [Lit.wf, IntKind.min, IntKind.max, IntKind.signed, IntKind.bits] at h
  exact ⟨h.1, by omega⟩

def wordsFn (l : List Value) : Nat → Int := fun k => match l[k]? with | some (.int _ n) => n | _ => 0

theorem wordsFn_w {l : List Value} (h : ∀ j, j < l.length → ∃ n : Int, l[j]? = some (.int .u32 n) ∧ Cp.W32 n) (k : Nat) : Cp.W32 (wordsFn l k) := by
  unfold wordsFn
  by_cases hk : k < l.length
  · obtain ⟨n, e, h0⟩ := h k hk
    rw [e]
    exact h0
  · have : l[k]? = none := by simp; omega
    rw [this]
    exact (⟨Int.le_refl 0, by decide⟩ : (0 : Int) ≤ 0 ∧ (0 : Int) < 4294967296)

theorem wordsFn_at {l : List Value} (h : ∀ j, j < l.length → ∃ n : Int, l[j]? = some (.int .u32 n) ∧ Cp.W32 n) (k : Nat) (hk : k < l.length) : l[k]? = some (.int .u32 (wordsFn l k)) := by
  obtain ⟨n, e, h0⟩ := h k hk
  unfold wordsFn
  rw [e]

section
variable {H : Type} {enc : TypeId × Value → H} {w : World} {base : Nat} {spare : Nat → Bool} {held : Bool}

theorem u32_cell {fuel : Nat} {l : List Value} {y : DataW H × List MemPlace} (h : DataW.trod enc Tryz.prog w base spare held fuel 22 l = some y) : ∃ n : Int, l = [.int .u32 n] ∧ Cp.W32 n := by
  obtain ⟨a, e, -, wa⟩ := DataW.trod_int Tryz.underlying22 h
  exact ⟨a, e, wf_u32c wa⟩

theorem array_words {fuel : Nat} {l : List Value} {y : DataW H × List MemPlace} (h : DataW.trod enc Tryz.prog w base spare held fuel 23 l = some y) :
    l.length = 32 ∧ ∀ j, j < l.length → ∃ n : Int, l[j]? = some (.int .u32 n) ∧ Cp.W32 n := by
  obtain ⟨xs, m, -, hx, hl, hlen, hf⟩ := DataW.trod_array Tryz.underlying23 h
  have c1 : Tryz.prog.cellsOf 22 = 1 := by kernel_rfl
  have c32 : Tryz.prog.cellsOf 23 = 32 := by kernel_rfl
  rw [c32] at hl
  rw [c1] at hf
  refine ⟨hl, fun j hj => ?_⟩
  have hi := hf j (by omega)
  have hlt : j < xs.length := by omega
  rw [List.getElem?_eq_getElem hlt] at hi
  obtain ⟨n, e, hn⟩ := u32_cell hi
  have e0 : ((l.drop (j * 1)).take 1)[0]? = [Value.int .u32 n][0]? := by rw [e]
  rw [List.getElem?_take_of_lt (by omega), List.getElem?_drop, show j * 1 + 0 = j by omega] at e0
  exact ⟨n, e0, hn⟩

theorem entry_words {fuel : Nat} {l : List Value} {y : DataW H × List MemPlace} (h : DataW.trod enc Tryz.prog w base spare held fuel 27 l = some y) :
    ∃ a b : Int, l = [.int .u32 a, .int .u32 b] ∧ Cp.W32 a ∧ Cp.W32 b := by
  obtain ⟨y0, y1, n, rfl, hl, h0, h1⟩ := trod_struct2 Tryz.underlying27 h
  have c2 : Tryz.prog.cellsOf 27 = 2 := by kernel_rfl
  have c1 : Tryz.prog.cellsOf 22 = 1 := by kernel_rfl
  rw [c2] at hl
  match l, hl with
  | [u, v], _ =>
    simp only [c1] at h0 h1
    obtain ⟨a, e0, rfl, wa⟩ := DataW.trod_int Tryz.underlying22 h0
    obtain ⟨b, e1, rfl, wb⟩ := DataW.trod_int Tryz.underlying22 h1
    simp at e0 e1
    subst e0 e1
    exact ⟨a, b, rfl, wf_u32c wa, wf_u32c wb⟩

theorem buffer_words {fuel : Nat} {l : List Value} {y : DataW H × List MemPlace} (h : DataW.trod enc Tryz.prog w base spare held fuel 29 l = some y) :
    l.length = 16 ∧ ∀ j, j < l.length → ∃ n : Int, l[j]? = some (.int .u32 n) ∧ Cp.W32 n := by
  obtain ⟨xs, m, -, hx, hl, hlen, hf⟩ := DataW.trod_array Tryz.underlying29 h
  have c2 : Tryz.prog.cellsOf 27 = 2 := by kernel_rfl
  have c16 : Tryz.prog.cellsOf 29 = 16 := by kernel_rfl
  rw [c16] at hl
  rw [c2] at hf
  refine ⟨hl, fun j hj => ?_⟩
  have hi := hf (j / 2) (by omega)
  have hlt : j / 2 < xs.length := by omega
  rw [List.getElem?_eq_getElem hlt] at hi
  obtain ⟨a, b, e, ha, hb⟩ := entry_words hi
  have e0 : ((l.drop (j / 2 * 2)).take 2)[j % 2]? = [Value.int .u32 a, .int .u32 b][j % 2]? := by rw [e]
  rw [List.getElem?_take_of_lt (by omega), List.getElem?_drop, show j / 2 * 2 + j % 2 = j by omega] at e0
  obtain q | q : j % 2 = 0 ∨ j % 2 = 1 := by omega
  · rw [q] at e0; exact ⟨a, e0, ha⟩
  · rw [q] at e0; exact ⟨b, e0, hb⟩

theorem regs_words {fuel : Nat} {l : List Value} {y : DataW H × List MemPlace} (h : DataW.trod enc Tryz.prog w base spare held fuel 25 l = some y) :
    l.length = 9 ∧ ∀ j, j < l.length → ∃ n : Int, l[j]? = some (.int .u32 n) ∧ Cp.W32 n := by
  have u1 : Tryz.prog.cellsOf 22 = 1 := by kernel_rfl
  have c9 : Tryz.prog.cellsOf 25 = 9 := by kernel_rfl
  obtain ⟨xs, m, -, hx, hl, hlen, hf⟩ := DataW.trod_struct Tryz.underlying25 h
  rw [c9] at hl
  refine ⟨hl, fun j hj => ?_⟩
  have hi : ∀ j, j < 9 → ∃ y, DataW.trod enc Tryz.prog w base spare held m 22 ((l.drop j).take (Tryz.prog.cellsOf 22)) = some y := by
    match xs, hlen, hf, hx with
    | [y0, y1, y2, y3, y4, y5, y6, y7, y8], _, hf, hx =>
      intro j hj
      match j, hj with
      | 0, _ => exact ⟨_, hf 0 _ rfl⟩
      | 1, _ => exact ⟨_, hf 1 _ rfl⟩
      | 2, _ => exact ⟨_, hf 2 _ rfl⟩
      | 3, _ => exact ⟨_, hf 3 _ rfl⟩
      | 4, _ => exact ⟨_, hf 4 _ rfl⟩
      | 5, _ => exact ⟨_, hf 5 _ rfl⟩
      | 6, _ => exact ⟨_, hf 6 _ rfl⟩
      | 7, _ => exact ⟨_, hf 7 _ rfl⟩
      | 8, _ => exact ⟨_, hf 8 _ rfl⟩
      | n + 9, h => omega
  obtain ⟨y, hy⟩ := hi j (by omega)
  rw [u1] at hy
  obtain ⟨n, e, hn⟩ := u32_cell hy
  have e0 : ((l.drop j).take 1)[0]? = [Value.int .u32 n][0]? := by rw [e]
  rw [List.getElem?_take_of_lt (by omega), List.getElem?_drop, show j + 0 = j by omega] at e0
  exact ⟨n, e0, hn⟩

theorem cpu_cells {fuel : Nat} {l : List Value} {y : DataW H × List MemPlace} (h : DataW.trod enc Tryz.prog w base spare held fuel 31 l = some y) :
    ∃ c : Cs, l = (cellsC c).toList ∧ Wc c := by
  have u1 : Tryz.prog.cellsOf 22 = 1 := by kernel_rfl
  have u4 : Tryz.prog.cellsOf 4 = 1 := by kernel_rfl
  have u32 : Tryz.prog.cellsOf 23 = 32 := by kernel_rfl
  have u9 : Tryz.prog.cellsOf 25 = 9 := by kernel_rfl
  have u16 : Tryz.prog.cellsOf 29 = 16 := by kernel_rfl
  have u63 : Tryz.prog.cellsOf 31 = 63 := by kernel_rfl
  obtain ⟨xs, m, -, hx, hl, hlen, hf⟩ := DataW.trod_struct Tryz.underlying31 h
  rw [u63] at hl
  match xs, hlen, hf, hx with
  | [y0, y1, y2, y3, y4, y5, y6, y7, y8], _, hf, hx =>
    have h0 : DataW.trod enc Tryz.prog w base spare held m 22 ((l.drop 0).take (Tryz.prog.cellsOf 22)) = some y0 := hf 0 _ rfl
    have h1 : DataW.trod enc Tryz.prog w base spare held m 22 ((l.drop 1).take (Tryz.prog.cellsOf 22)) = some y1 := hf 1 _ rfl
    have h2 : DataW.trod enc Tryz.prog w base spare held m 4 ((l.drop 2).take (Tryz.prog.cellsOf 4)) = some y2 := hf 2 _ rfl
    have h3 : DataW.trod enc Tryz.prog w base spare held m 23 ((l.drop 3).take (Tryz.prog.cellsOf 23)) = some y3 := hf 3 _ rfl
    have h4 : DataW.trod enc Tryz.prog w base spare held m 22 ((l.drop 35).take (Tryz.prog.cellsOf 22)) = some y4 := hf 4 _ rfl
    have h5 : DataW.trod enc Tryz.prog w base spare held m 22 ((l.drop 36).take (Tryz.prog.cellsOf 22)) = some y5 := hf 5 _ rfl
    have h6 : DataW.trod enc Tryz.prog w base spare held m 4 ((l.drop 37).take (Tryz.prog.cellsOf 4)) = some y6 := hf 6 _ rfl
    have h7 : DataW.trod enc Tryz.prog w base spare held m 25 ((l.drop 38).take (Tryz.prog.cellsOf 25)) = some y7 := hf 7 _ rfl
    have h8 : DataW.trod enc Tryz.prog w base spare held m 29 ((l.drop 47).take (Tryz.prog.cellsOf 29)) = some y8 := hf 8 _ rfl
    rw [u1] at h0 h1 h4 h5
    rw [u4] at h2 h6
    rw [u32] at h3
    rw [u9] at h7
    rw [u16] at h8
    obtain ⟨a0, e0, w0⟩ := u32_cell h0
    obtain ⟨a1, e1, w1⟩ := u32_cell h1
    obtain ⟨a2, e2, -⟩ := DataW.trod_bool Tryz.underlying4 h2
    obtain ⟨-, w3⟩ := array_words h3
    obtain ⟨a4, e4, w4⟩ := u32_cell h4
    obtain ⟨a5, e5, w5⟩ := u32_cell h5
    obtain ⟨a6, e6, -⟩ := DataW.trod_bool Tryz.underlying4 h6
    obtain ⟨-, w7⟩ := regs_words h7
    obtain ⟨-, w8⟩ := buffer_words h8
    have at1 : ∀ (k : Nat) (v : Value), (l.drop k).take 1 = [v] → l[k]? = some v := fun k v e => by
      have e0 : ((l.drop k).take 1)[0]? = [v][0]? := by rw [e]
      rwa [List.getElem?_take_of_lt (by omega), List.getElem?_drop, show k + 0 = k by omega] at e0
    have atN : ∀ (k z : Nat), k + z ≤ 63 → (∀ j, j < ((l.drop k).take z).length → ∃ n : Int, ((l.drop k).take z)[j]? = some (.int .u32 n) ∧ Cp.W32 n) → ∀ j, j < z → l[k + j]? = some (.int .u32 (wordsFn ((l.drop k).take z) j)) := fun k z hz hw j hj => by
      have := wordsFn_at hw j (by simp; omega)
      rwa [List.getElem?_take_of_lt hj, List.getElem?_drop] at this
    have r3 := atN 3 32 (by omega) w3
    have r7 := atN 38 9 (by omega) w7
    have r8 := atN 47 16 (by omega) w8
    have q3 := wordsFn_w w3
    have q7 := wordsFn_w w7
    have q8 := wordsFn_w w8
    generalize wordsFn ((l.drop 3).take 32) = R at *
    generalize wordsFn ((l.drop 38).take 9) = G at *
    generalize wordsFn ((l.drop 47).take 16) = T at *
    refine ⟨⟨a0, a1, a2, R, a4, a5, a6, ⟨G 0, G 1, G 2, G 3, G 4, G 5, G 6, G 7, G 8⟩, T⟩, ?_, ⟨w0, w1, q3, w4, w5, ⟨q7 0, q7 1, q7 2, q7 3, q7 4, q7 5, q7 6, q7 7, q7 8⟩, q8⟩⟩
    have s0 := at1 0 _ e0
    have s1 := at1 1 _ e1
    have s2 := at1 2 _ e2
    have s4 := at1 35 _ e4
    have s5 := at1 36 _ e5
    have s6 := at1 37 _ e6
    clear e0 e1 e2 e4 e5 e6 h0 h1 h2 h3 h4 h5 h6 h7 h8 w3 w7 w8 atN at1 hf hx
    refine List.ext_getElem? fun j => ?_
    by_cases hj : j < 63
    · refine Eq.trans ?_ (Array.getElem?_toList).symm
      by_cases j3 : 3 ≤ j ∧ j < 35
      · obtain ⟨k, rfl⟩ : ∃ k, j = 3 + k := ⟨j - 3, by omega⟩
        rw [r3 k (by omega), get_R _ k (by omega)]
      by_cases j8 : 47 ≤ j
      · obtain ⟨k, rfl⟩ : ∃ k, j = 47 + k := ⟨j - 47, by omega⟩
        rw [r8 k (by omega)]
        have hk : k < 16 := by omega
        clear r8 r3 r7
        match k, hk with
        | 0, _ => rfl
        | 1, _ => rfl
        | 2, _ => rfl
        | 3, _ => rfl
        | 4, _ => rfl
        | 5, _ => rfl
        | 6, _ => rfl
        | 7, _ => rfl
        | 8, _ => rfl
        | 9, _ => rfl
        | 10, _ => rfl
        | 11, _ => rfl
        | 12, _ => rfl
        | 13, _ => rfl
        | 14, _ => rfl
        | 15, _ => rfl
        | n + 16, h => omega
      by_cases j7 : 38 ≤ j
      · obtain ⟨k, rfl⟩ : ∃ k, j = 38 + k := ⟨j - 38, by omega⟩
        rw [r7 k (by omega)]
        have hk : k < 9 := by omega
        clear r8 r3 r7
        match k, hk with
        | 0, _ => rfl
        | 1, _ => rfl
        | 2, _ => rfl
        | 3, _ => rfl
        | 4, _ => rfl
        | 5, _ => rfl
        | 6, _ => rfl
        | 7, _ => rfl
        | 8, _ => rfl
        | n + 9, h => omega
      · obtain rfl | rfl | rfl | rfl | rfl | rfl : j = 0 ∨ j = 1 ∨ j = 2 ∨ j = 35 ∨ j = 36 ∨ j = 37 := by omega
        · exact s0
        · exact s1
        · exact s2
        · exact s4
        · exact s5
        · exact s6
    · rw [List.getElem?_eq_none (by omega), List.getElem?_eq_none (by show 63 ≤ j; omega)]

end

end Go.Proofs.YthjcijlabpinkaaGreatDoor

namespace Go.Proofs.YthjcijlabpinkaaGreatDoor
open Go.ChangeShapes Go.WideShapes Go.ChangeAt Go.RowKit Go.Joins
set_option linter.unusedVariables false
set_option maxRecDepth 100000
set_option linter.unusedSimpArgs false

structure Ev where
  x : Int
  k : Int
  n : Int

def listE (e : Ev) : List Value := [.int .i64 e.x, .int .i64 e.k, .int .u32 e.n]

def IsEvents (w : World) (v : Value) (es : List Ev) : Prop :=
  (∃ a c, es = [] ∧ v = .slice a 0 c) ∨ ∃ b off c, v = .slice (some ⟨b, off, none⟩) es.length c ∧ es.length ≤ maxLen ∧ b < w.heap.size ∧ ∀ (i : Nat) e, es[i]? = some e → Cp.W32 e.n ∧ ∀ j, j < 3 → w.cell? ⟨b, off + i * 3 + j, none⟩ = (listE e)[j]?

section
variable {H : Type} {enc : TypeId × Value → H} {w : World} {base : Nat} {spare : Nat → Bool} {held : Bool}

theorem event_cells {fuel : Nat} {l : List Value} {y : DataW H × List MemPlace} (hn : l.length = 3) (h : DataW.trod enc Tryz.prog w base spare held fuel 48 l = some y) :
    ∃ e : Ev, l = listE e ∧ Cp.W32 e.n := by
  have c1 : Tryz.prog.cellsOf 22 = 1 := by kernel_rfl
  have c3 : Tryz.prog.cellsOf 3 = 1 := by kernel_rfl
  match l, hn with
  | [d0, d1, d2], _ =>
    obtain ⟨xs, m, -, hx, -, hlen, hf⟩ := DataW.trod_struct Tryz.underlying48 h
    match xs, hlen, hf, hx with
    | [y0, y1, y2], _, hf, hx =>
      have h0 : DataW.trod enc Tryz.prog w base spare held m 3 ((([d0, d1, d2] : List Value).drop 0).take (Tryz.prog.cellsOf 3)) = some y0 := hf 0 _ rfl
      have h1 : DataW.trod enc Tryz.prog w base spare held m 3 ((([d0, d1, d2] : List Value).drop 1).take (Tryz.prog.cellsOf 3)) = some y1 := hf 1 _ rfl
      have h2 : DataW.trod enc Tryz.prog w base spare held m 22 ((([d0, d1, d2] : List Value).drop 2).take (Tryz.prog.cellsOf 22)) = some y2 := hf 2 _ rfl
      rw [c3] at h0 h1
      rw [c1] at h2
      obtain ⟨a0, e0, -, w0⟩ := DataW.trod_int Tryz.underlying3 h0
      obtain ⟨a1, e1, -, w1⟩ := DataW.trod_int Tryz.underlying3 h1
      obtain ⟨a2, e2, -, w2⟩ := DataW.trod_int Tryz.underlying22 h2
      simp at e0 e1 e2
      subst e0 e1 e2
      exact ⟨⟨a0, a1, a2⟩, rfl, wf_u32c w2⟩

theorem events_of {fuel : Nat} {v : Value} {y : DataW H × List MemPlace} (hf : DataW.trod enc Tryz.prog w base spare held fuel 39 [v] = some y) : ∃ es, IsEvents w v es := by
  have cE : Tryz.prog.cellsOf 48 = 3 := by kernel_rfl
  rcases Go.Deep.open_slice Tryz.underlying39 hf with ⟨hcs, _⟩ | ⟨y, len, cap, m, n, D, Pl, hcs, hb, hl, hm, hmm, -, hx⟩
  · simp at hcs
    subst hcs
    exact ⟨[], Or.inl ⟨_, _, rfl, rfl⟩⟩
  · simp at hcs
    subst hcs
    have hle : len ≤ m := by rw [hmm]; split <;> omega
    by_cases h0 : len = 0
    · subst h0
      exact ⟨[], Or.inl ⟨_, _, rfl, rfl⟩⟩
    · have each : ∀ i, i < len → ∃ o : Ev, Cp.W32 o.n ∧ ∀ j, j < 3 → w.cell? (y.add (i * 3 + j)) = (listE o)[j]? := by
        intro i hi
        obtain ⟨cs, h1, h2⟩ := hx i (by omega)
        rw [cE] at h1
        obtain ⟨_, hlen, hc⟩ := World.cells?_some h1
        obtain ⟨o, rfl, ho⟩ := event_cells hlen h2
        refine ⟨o, ho, fun j hj => ?_⟩
        rw [← hc j hj, Addr.add_add]
      obtain ⟨b, off, spot⟩ := y
      obtain ⟨o0, -, hc0⟩ := each 0 (by omega)
      have hc1 := hc0 0 (by decide)
      have hs : spot = none := by
        simpa [Addr.add] using World.cell?_spot (v := .int .i64 o0.x) hc1
      subst hs
      have hlt : b < w.heap.size := by
        rw [Addr.add_lit] at hc1
        exact World.block_lt_of_cell? (u := .int .i64 o0.x) _ _ hc1
      obtain ⟨f, hf⟩ := Classical.axiomOfChoice (r := fun (i : Fin len) (o : Ev) => Cp.W32 o.n ∧ ∀ j, j < 3 → w.cell? ((⟨b, off, none⟩ : Addr).add (i.1 * 3 + j)) = (listE o)[j]?) (fun i => each i.1 i.2)
      refine ⟨List.ofFn f, Or.inr ⟨b, off, cap, ?_, ?_, hlt, ?_⟩⟩
      · rw [List.length_ofFn]
      · rw [List.length_ofFn]; omega
      · intro i o hi
        have hil : i < len := by
          have := (List.getElem?_eq_some_iff.1 hi).1
          rwa [List.length_ofFn] at this
        rw [List.getElem?_eq_getElem (by rw [List.length_ofFn]; exact hil), List.getElem_ofFn] at hi
        injection hi with hi
        obtain ⟨h1, h2⟩ := hf ⟨i, hil⟩
        rw [hi] at h1 h2
        refine ⟨h1, fun j hj => ?_⟩
        have := h2 j hj
        rw [Addr.add_lit] at this
        rw [Nat.add_assoc]
        exact this

theorem words_of {fuel : Nat} {v : Value} {y : DataW H × List MemPlace} (hf : DataW.trod enc Tryz.prog w base spare held fuel 38 [v] = some y) : ∃ zs, IsWords w v zs := by
  rcases open_ints Tryz.underlying38 Tryz.underlying22 (by kernel_rfl) hf with ⟨hcs, _⟩ | ⟨y, len, cap, zs, hcs, _, hl, hm, hz, _, hcell, hwz⟩
  · simp at hcs
    subst hcs
    exact ⟨[], Or.inl ⟨_, _, rfl, rfl⟩⟩
  · simp at hcs
    subst hcs
    have hle : len ≤ zs.length := by rw [hz]; split <;> omega
    by_cases h0 : len = 0
    · subst h0
      exact ⟨[], Or.inl ⟨_, _, rfl, rfl⟩⟩
    · obtain ⟨b, off, spot⟩ := y
      have hs : spot = none := by simpa [Addr.add] using World.cell?_spot (hcell 0 (by omega))
      subst hs
      refine ⟨zs.take len, Or.inr ⟨b, off, cap, ?_, ?_, ?_, ?_⟩⟩
      · rw [List.length_take, Nat.min_eq_left hle]
      · rw [List.length_take, Nat.min_eq_left hle]; omega
      · have := World.block_lt_of_cell? _ _ (hcell 0 (by omega))
        exact this
      · intro i z hi
        have hil : i < len := by
          have := (List.getElem?_eq_some_iff.1 hi).1
          rw [List.length_take] at this
          omega
        rw [List.getElem?_take_of_lt hil] at hi
        have hc := hcell i (by omega)
        rw [Addr.add_lit, List.getD_eq_getElem?_getD, hi] at hc
        exact ⟨wf_u32c (hwz z (List.mem_of_getElem? hi)), hc⟩

theorem open_world {r : Reach} {b0 : Nat} {v : Value} {x : DataW H} {p : List MemPlace}
    (hv : Value.okWide Tryz.prog w r b0 41 v) (h : DataW.Trod enc Tryz.prog w base spare held 41 v x p) :
    ∃ (c : Cs) (sw : Value) (dev : ByteArray) (se : Value) (st : Int) (zs : List Int) (es : List Ev), v = .agg (cellsWo c sw dev se st) ∧ Wc c ∧ IsWords w sw zs ∧ dev.size ≤ maxLen ∧ IsEvents w se es ∧ (Lit.int .i64 st).wf = true := by
  obtain ⟨cs, rfl, hsz⟩ := okWide_struct Tryz.underlying41 hv
  have u67 : Tryz.prog.cellsOf 41 = 67 := by kernel_rfl
  have u63 : Tryz.prog.cellsOf 31 = 63 := by kernel_rfl
  have uw : Tryz.prog.cellsOf 38 = 1 := by kernel_rfl
  have u9 : Tryz.prog.cellsOf 9 = 1 := by kernel_rfl
  have ue : Tryz.prog.cellsOf 39 = 1 := by kernel_rfl
  have u3 : Tryz.prog.cellsOf 3 = 1 := by kernel_rfl
  rw [u67] at hsz
  obtain ⟨fuel, hf⟩ := h
  simp only [Value.cells] at hf
  have hl : cs.toList.length = 67 := by simpa using hsz
  generalize hcl : cs.toList = l at *
  obtain ⟨xs, m, -, hx, -, hlen, hf⟩ := DataW.trod_struct Tryz.underlying41 hf
  match xs, hlen, hf, hx with
  | [y0, y1, y2, y3, y4], _, hf, hx =>
    have h0 : DataW.trod enc Tryz.prog w base spare held m 31 ((l.drop 0).take (Tryz.prog.cellsOf 31)) = some y0 := hf 0 _ rfl
    have h1 : DataW.trod enc Tryz.prog w base spare held m 38 ((l.drop 63).take (Tryz.prog.cellsOf 38)) = some y1 := hf 1 _ rfl
    have h2 : DataW.trod enc Tryz.prog w base spare held m 9 ((l.drop 64).take (Tryz.prog.cellsOf 9)) = some y2 := hf 2 _ rfl
    have h3 : DataW.trod enc Tryz.prog w base spare held m 39 ((l.drop 65).take (Tryz.prog.cellsOf 39)) = some y3 := hf 3 _ rfl
    have h4 : DataW.trod enc Tryz.prog w base spare held m 3 ((l.drop 66).take (Tryz.prog.cellsOf 3)) = some y4 := hf 4 _ rfl
    rw [u63] at h0
    rw [uw] at h1
    rw [u9] at h2
    rw [ue] at h3
    rw [u3] at h4
    have one : ∀ k, k < 67 → ∃ v, (l.drop k).take 1 = [v] ∧ l[k]? = some v := fun k hk => by
      have hk' : k < l.length := by omega
      refine ⟨l[k], ?_, List.getElem?_eq_getElem hk'⟩
      rw [List.drop_eq_getElem_cons hk']
      rfl
    obtain ⟨v1, e1, g1⟩ := one 63 (by omega)
    obtain ⟨v2, e2, g2⟩ := one 64 (by omega)
    obtain ⟨v3, e3, g3⟩ := one 65 (by omega)
    obtain ⟨v4, e4, g4⟩ := one 66 (by omega)
    rw [e1] at h1
    rw [e2] at h2
    rw [e3] at h3
    rw [e4] at h4
    obtain ⟨c, ec, hc⟩ := cpu_cells h0
    obtain ⟨zs, hz⟩ := words_of h1
    obtain ⟨s, es2, -, ws⟩ := DataW.trod_string Tryz.underlying9 h2
    obtain ⟨evs, he⟩ := events_of h3
    obtain ⟨st, e5, -, w5⟩ := DataW.trod_int Tryz.underlying3 h4
    simp at es2 e5
    subst es2 e5
    refine ⟨c, v1, s, v3, st, zs, evs, ?_, hc, hz, ?_, he, w5⟩
    · congr 1
      apply Array.toList_inj.1
      rw [hcl]
      have hcut : l = (l.drop 0).take 63 ++ [v1, .string s, v3, .int .i64 st] := by
        refine List.ext_getElem? fun j => ?_
        by_cases hj : j < 63
        · rw [List.getElem?_append_left (by simp; omega), List.getElem?_take_of_lt hj]; simp
        · by_cases h67 : j < 67
          · rw [List.getElem?_append_right (by simp; omega)]
            have e63 : (List.take 63 (List.drop 0 l)).length = 63 := by simp; omega
            rw [e63]
            obtain rfl | rfl | rfl | rfl : j = 63 ∨ j = 64 ∨ j = 65 ∨ j = 66 := by omega
            · exact g1
            · exact g2
            · exact g3
            · exact g4
          · rw [List.getElem?_eq_none (by omega), List.getElem?_eq_none (by simp; omega)]
      rw [hcut, ec]
      rfl
    · exact ws

end

end Go.Proofs.YthjcijlabpinkaaGreatDoor
