/- Layer 7: what comes in is opened: a buffer, an entry, a buffer with a slot, an address and a space. -/
import Derived.Test.YtdiijmjdnnolgaaTlbFixed
import Derived.ProofKit
import Derived.OpenShut
import Derived.ChangeOld
import Derived.Carry
import Derived.ChangeSame
namespace Go.Proofs.Ytdiijmjdnnolgaa
open Go.ChangeShapes Go.WideShapes Go.ChangeAt Go.RowKit
set_option linter.unusedVariables false

theorem own : ownKnob Try.prog.godebug = none := by kernel_rfl

theorem laidOut : laidOutB Try.prog = true := by kernel_rfl

theorem wf_u32 {n : Int} (h : (Lit.int .u32 n).wf = true) : 0 ≤ n ∧ n < 4294967296 := by
  simp [Lit.wf, IntKind.min, IntKind.max, IntKind.signed, IntKind.bits] at h
  omega

section
variable {H : Type} {enc : TypeId × Value → H} {w : World} {base : Nat} {spare : Nat → Bool} {held : Bool}

/-- The cells of an entry. -/
theorem entry_cells {fuel : Nat} {l : List Value} {y : DataW H × List MemPlace} (h : DataW.trod enc Try.prog w base spare held fuel 24 l = some y) :
    ∃ a b : Int, l = [.int .u32 a, .int .u32 b] ∧ (0 ≤ a ∧ a < 4294967296) ∧ (0 ≤ b ∧ b < 4294967296) := by
  obtain ⟨y0, y1, n, rfl, hl, h0, h1⟩ := trod_struct2 Try.underlying24 h
  have c2 : Try.prog.cellsOf 24 = 2 := by kernel_rfl
  have c1 : Try.prog.cellsOf 22 = 1 := by kernel_rfl
  rw [c2] at hl
  match l, hl with
  | [u, v], _ =>
    simp only [c1] at h0 h1
    obtain ⟨a, e0, rfl, wa⟩ := DataW.trod_int Try.underlying22 h0
    obtain ⟨b, e1, rfl, wb⟩ := DataW.trod_int Try.underlying22 h1
    simp at e0 e1
    subst e0 e1
    exact ⟨a, b, rfl, wf_u32 wa, wf_u32 wb⟩

/-- A row of cells that are words is the row of a function. -/
def wordsOf (l : List Value) : Nat → Int := fun k => match l[k]? with | some (.int _ n) => n | _ => 0

theorem cells_words {l : List Value} (hl : l.length = 16) (h : ∀ j, j < 16 → ∃ n : Int, l[j]? = some (.int .u32 n) ∧ 0 ≤ n ∧ n < 4294967296) : l.toArray = cellsT (wordsOf l) ∧ Wd (wordsOf l) := by
  constructor
  · apply Array.ext_getElem?
    intro j
    by_cases hj : j < 16
    · obtain ⟨n, e, _⟩ := h j hj
      rw [get_cellsT _ j hj]
      simp [e, wordsOf]
    · have n2 := size_cellsT (wordsOf l)
      have e1 : l.toArray[j]? = none := by simp; omega
      have e2 : (cellsT (wordsOf l))[j]? = none := by simp; simp [N16] at n2; omega
      rw [e1, e2]
  · intro k
    unfold wordsOf
    by_cases hk : k < 16
    · obtain ⟨n, e, h0, h1⟩ := h k hk
      rw [e]
      exact ⟨h0, h1⟩
    · have : l[k]? = none := by simp; omega
      rw [this]
      exact (⟨Int.le_refl 0, by decide⟩ : (0 : Int) ≤ 0 ∧ (0 : Int) < 4294967296)

theorem tlb_cells {fuel : Nat} {l : List Value} {y : DataW H × List MemPlace} (h : DataW.trod enc Try.prog w base spare held fuel 26 l = some y) :
    ∃ T, l.toArray = cellsT T ∧ Wd T := by
  obtain ⟨xs, m, -, hx, hl, hlen, hf⟩ := DataW.trod_array Try.underlying26 h
  have c2 : Try.prog.cellsOf 24 = 2 := by kernel_rfl
  have c16 : Try.prog.cellsOf 26 = 16 := by kernel_rfl
  rw [c16] at hl
  rw [c2] at hf
  refine ⟨wordsOf l, cells_words hl fun j hj => ?_⟩
  have hi := hf (j / 2) (by omega)
  have hlt : j / 2 < xs.length := by omega
  rw [List.getElem?_eq_getElem hlt] at hi
  obtain ⟨a, b, e, ha, hb⟩ := entry_cells hi
  have e0 : ((l.drop (j / 2 * 2)).take 2)[j % 2]? = [Value.int .u32 a, .int .u32 b][j % 2]? := by rw [e]
  rw [List.getElem?_take_of_lt (by omega), List.getElem?_drop, show j / 2 * 2 + j % 2 = j by omega] at e0
  obtain q | q : j % 2 = 0 ∨ j % 2 = 1 := by omega
  · rw [q] at e0; exact ⟨a, e0, ha⟩
  · rw [q] at e0; exact ⟨b, e0, hb⟩

theorem okWide_array {r : Reach} {b0 : Nat} {t : TypeId} {n : Nat} {e : TypeId} {v : Value} (ht : Try.prog.underlying t = some (.array n e)) (h : Value.okWide Try.prog w r b0 t v) : ∃ cs, v = .agg cs ∧ cs.size = Try.prog.cellsOf t := by
  simp only [Value.okWide, ht] at h
  obtain ⟨cs, h1, h2, _⟩ := h
  exact ⟨cs, h1, h2⟩

theorem open_tlb {r : Reach} {b0 : Nat} {v : Value} {x : DataW H} {p : List MemPlace}
    (hv : Value.okWide Try.prog w r b0 26 v) (h : DataW.Trod enc Try.prog w base spare held 26 v x p) : ∃ T, v = .agg (cellsT T) ∧ Wd T := by
  obtain ⟨cs, rfl, hsz⟩ := okWide_array Try.underlying26 hv
  obtain ⟨fuel, hf⟩ := h
  obtain ⟨T, e, hT⟩ := tlb_cells hf
  exact ⟨T, by simpa [Value.cells] using e, hT⟩

theorem open_entry {r : Reach} {b0 : Nat} {v : Value} {x : DataW H} {p : List MemPlace}
    (hv : Value.okWide Try.prog w r b0 24 v) (h : DataW.Trod enc Try.prog w base spare held 24 v x p) : ∃ a b : Int, v = .agg #[.int .u32 a, .int .u32 b] ∧ (0 ≤ a ∧ a < 4294967296) ∧ (0 ≤ b ∧ b < 4294967296) := by
  obtain ⟨cs, rfl, hsz⟩ := okWide_struct Try.underlying24 hv
  obtain ⟨fuel, hf⟩ := h
  obtain ⟨a, b, e, ha, hb⟩ := entry_cells hf
  refine ⟨a, b, ?_, ha, hb⟩
  congr 1
  apply Array.toList_inj.1
  simpa [Value.cells] using e

/-- A buffer, a slot, an address, a space. -/
def cellsF (T : Nat → Int) (s a p : Int) : Array Value := cellsT T ++ #[.int .i64 s, .int .u32 a, .int .u32 p]

theorem open_fit {r : Reach} {b0 : Nat} {v : Value} {x : DataW H} {p : List MemPlace}
    (hv : Value.okWide Try.prog w r b0 39 v) (h : DataW.Trod enc Try.prog w base spare held 39 v x p) :
    ∃ (T : Nat → Int) (s a q : Int), v = .agg (cellsF T s a q) ∧ Wd T ∧ (0 ≤ a ∧ a < 4294967296) ∧ (0 ≤ q ∧ q < 4294967296) := by
  obtain ⟨cs, rfl, hsz⟩ := okWide_struct Try.underlying39 hv
  have c19 : Try.prog.cellsOf 39 = 19 := by kernel_rfl
  have c16 : Try.prog.cellsOf 26 = 16 := by kernel_rfl
  have c1 : Try.prog.cellsOf 22 = 1 := by kernel_rfl
  have c3 : Try.prog.cellsOf 3 = 1 := by kernel_rfl
  rw [c19] at hsz
  obtain ⟨fuel, hf⟩ := h
  obtain ⟨xs, m, -, hx, hl, hlen, hf⟩ := DataW.trod_struct Try.underlying39 hf
  match xs, hlen, hf, hx with
  | [y0, y1, y2, y3], _, hf, hx =>
    have h0 : DataW.trod enc Try.prog w base spare held m 26 ((cs.toList.drop 0).take (Try.prog.cellsOf 26)) = some y0 := hf 0 _ rfl
    have h1 : DataW.trod enc Try.prog w base spare held m 3 ((cs.toList.drop 16).take (Try.prog.cellsOf 3)) = some y1 := hf 1 _ rfl
    have h2 : DataW.trod enc Try.prog w base spare held m 22 ((cs.toList.drop 17).take (Try.prog.cellsOf 22)) = some y2 := hf 2 _ rfl
    have h3 : DataW.trod enc Try.prog w base spare held m 22 ((cs.toList.drop 18).take (Try.prog.cellsOf 22)) = some y3 := hf 3 _ rfl
    rw [c16] at h0
    rw [c3] at h1
    rw [c1] at h2 h3
    obtain ⟨T, e0, hT⟩ := tlb_cells h0
    obtain ⟨s, e1, rfl, ws⟩ := DataW.trod_int Try.underlying3 h1
    obtain ⟨a, e2, rfl, wa⟩ := DataW.trod_int Try.underlying22 h2
    obtain ⟨q, e3, rfl, wq⟩ := DataW.trod_int Try.underlying22 h3
    refine ⟨T, s, a, q, ?_, hT, wf_u32 wa, wf_u32 wq⟩
    congr 1
    apply Array.ext_getElem?
    intro j
    unfold cellsF
    have sT : (cellsT T).size = 16 := size_cellsT T
    rw [Array.getElem?_append, sT]
    by_cases hj : j < 16
    · rw [if_pos hj, ← e0]
      simp [List.getElem?_take_of_lt hj]
    · rw [if_neg hj]
      obtain rfl | rfl | rfl | g : j = 16 ∨ j = 17 ∨ j = 18 ∨ 19 ≤ j := by omega
      · have : cs.toList[16]? = some (Value.int .i64 s) := by
          have := congrArg (fun l => l[0]?) e1
          simpa [List.getElem?_take_of_lt, List.getElem?_drop] using this
        simpa using this
      · have : cs.toList[17]? = some (Value.int .u32 a) := by
          have := congrArg (fun l => l[0]?) e2
          simpa [List.getElem?_take_of_lt, List.getElem?_drop] using this
        simpa using this
      · have : cs.toList[18]? = some (Value.int .u32 q) := by
          have := congrArg (fun l => l[0]?) e3
          simpa [List.getElem?_take_of_lt, List.getElem?_drop] using this
        simpa using this
      · have n1 : cs[j]? = none := by simp; omega
        have n2 : (#[Value.int .i64 s, .int .u32 a, .int .u32 q])[j - 16]? = none := by simp; omega
        rw [n1, n2]
end

end Go.Proofs.Ytdiijmjdnnolgaa
