/- Layer 7: a buffer as a row of sixteen words: its parts, what a write makes of it, and when two are the same. -/
import Derived.Test.YtdiijmjdnnolgaaWholeAt
import Derived.ChangeKeysEq
namespace Go.Proofs.Ytdiijmjdnnolgaa
open Go.RowKit
set_option linter.unusedVariables false

/-- A buffer: word 2 k is the Hi, word 2 k + 1 the Lo of slot k. -/
def cellsT (T : Nat → Int) : Array Value := ((List.range 16).map fun k => Value.int .u32 (T k)).toArray

/-- Sixteen, so spelt that no walk opens a row of them. -/
def N16 : Nat := 16

/-- The buffer of noughts. -/
def T0 : Nat → Int := fun _ => 0

theorem size_cellsT (T : Nat → Int) : (cellsT T).size = N16 := by simp [cellsT, N16]

theorem get_cellsT (T : Nat → Int) (j : Nat) (h : j < 16) : (cellsT T)[j]? = some (.int .u32 (T j)) := by
  simp [cellsT, h]

/-- A buffer with h and l in slot s. -/
def putT (T : Nat → Int) (s : Nat) (h l : Int) : Nat → Int := fun k => if k = s * 2 then h else if k = s * 2 + 1 then l else T k

theorem cellsT_ext {T U : Nat → Int} (h : ∀ k, k < 16 → T k = U k) : cellsT T = cellsT U := by
  unfold cellsT
  congr 1
  apply List.map_congr_left
  intro k hk
  rw [h k (by simpa using hk)]

theorem set_cellsT (T : Nat → Int) (s : Nat) (h l : Int) : ((cellsT T).setIfInBounds (s * 2) (.int .u32 h)).setIfInBounds (s * 2 + 1) (.int .u32 l) = cellsT (putT T s h l) := by
  apply Array.ext_getElem?
  intro j
  have hs : (cellsT T).size = 16 := size_cellsT T
  rw [Array.getElem?_setIfInBounds, Array.getElem?_setIfInBounds, Array.size_setIfInBounds, hs]
  by_cases hj : j < 16
  · rw [get_cellsT _ j hj, get_cellsT _ j hj, putT]
    by_cases e1 : s * 2 + 1 = j
    · subst e1
      rw [if_pos rfl, if_pos hj, if_neg (by omega), if_pos rfl]
    · rw [if_neg e1]
      by_cases e2 : s * 2 = j
      · subst e2
        rw [if_pos rfl, if_pos hj, if_pos rfl]
      · rw [if_neg e2, if_neg (by omega), if_neg (by omega)]
  · have n1 : (cellsT T)[j]? = none := by simp; omega
    have n2 : (cellsT (putT T s h l))[j]? = none := by simp; have := size_cellsT (putT T s h l); simp [N16] at this; omega
    rw [n1, n2]
    repeat' split
    all_goals first | rfl | omega

theorem extract_cellsT (T : Nat → Int) (s : Nat) (h : s < 8) : (cellsT T).extract (s * 2) (s * 2 + 2) = #[.int .u32 (T (s * 2)), .int .u32 (T (s * 2 + 1))] := by
  apply Array.ext_getElem?
  intro j
  rw [Array.getElem?_extract]
  have hs : (cellsT T).size = 16 := size_cellsT T
  by_cases hj : j < 2
  · rw [if_pos (by omega), get_cellsT T _ (by omega)]
    obtain rfl | rfl : j = 0 ∨ j = 1 := by omega
    · simp
    · simp
  · rw [if_neg (by omega)]
    simp; omega

theorem part_cellsT (T : Nat → Int) (s : Nat) (h : s < 8) (w : World) : (part 24 (cellsT T) (s * 2)).run Try.prog w = .ok (.agg #[.int .u32 (T (s * 2)), .int .u32 (T (s * 2 + 1))]) w := by
  simp [part, Try.isAgg24, Try.sizeOf24, extract_cellsT T s h]

/-- Are two entries the same? -/
def same2 (h l h' l' : Int) : Bool := h == h' && l == l'

theorem same2_iff {h l h' l' : Int} : same2 h l h' l' = true ↔ h = h' ∧ l = l' := by simp [same2]

theorem eqEntry (d : Nat) (h l h' l' : Int) (w : World) : (Op.equalIn (d + 1 + 1) 24 (.agg #[.int .u32 h, .int .u32 l]) (.agg #[.int .u32 h', .int .u32 l'])).run Try.prog w = .ok (same2 h l h' l') w := by
  have hu : Try.prog.underlying 24 = some (.struct (Try.prog.fieldsOf 24)) := by kernel_rfl
  have hp : Try.prog.stoodInHeld 24 = false := by kernel_rfl
  rw [run_equalIn_agg w (d + 1) 24 _ _ hu hp]
  simp [go_sem, same2]
  repeat' split
  all_goals simp_all

theorem eqItems_cellsT (d : Nat) (T U : Nat → Int) (w : World) : ∀ is : List Nat, (∀ i ∈ is, i < 8) →
    (Op.eqItems (d + 1 + 1) 24 2 (cellsT T) (cellsT U) is).run Try.prog w = .ok (is.all fun i => same2 (T (i * 2)) (T (i * 2 + 1)) (U (i * 2)) (U (i * 2 + 1))) w
  | [], _ => by simp [Op.eqItems]
  | i :: is, h => by
    have hi : i < 8 := h i (by simp)
    have ih := eqItems_cellsT d T U w is (fun j hj => h j (by simp [hj]))
    simp only [Op.eqItems, Sem.run_bind, part_cellsT T i hi, part_cellsT U i hi, Result.andThen_ok, eqEntry]
    rw [List.all_cons]
    cases same2 (T (i * 2)) (T (i * 2 + 1)) (U (i * 2)) (U (i * 2 + 1))
    · simp
    · simp [ih]

/-- Are two buffers the same? -/
def sameT (T U : Nat → Int) : Bool := (List.range 8).all fun i => same2 (T (i * 2)) (T (i * 2 + 1)) (U (i * 2)) (U (i * 2 + 1))

theorem sameT_iff (T U : Nat → Int) : sameT T U = true ↔ ∀ k, k < 16 → T k = U k := by
  unfold sameT
  rw [List.all_eq_true]
  constructor
  · intro h k hk
    have := same2_iff.1 (h (k / 2) (by simp; omega))
    obtain e | e : k = k / 2 * 2 ∨ k = k / 2 * 2 + 1 := by omega
    · rw [e]; exact this.1
    · rw [e]; exact this.2
  · intro h i hi
    have : i < 8 := by simpa using hi
    exact same2_iff.2 ⟨h (i * 2) (by omega), h (i * 2 + 1) (by omega)⟩

theorem sameT_refl (T : Nat → Int) : sameT T T = true := (sameT_iff T T).2 fun _ _ => rfl

theorem eqTlb (T U : Nat → Int) (w : World) : (Op.equalIn 10000 26 (.agg (cellsT T)) (.agg (cellsT U))).run Try.prog w = .ok (sameT T U) w := by
  obtain ⟨i, hi⟩ := info_of_underlying Try.underlying24
  rw [run_equalIn_array w 9999 (cellsT T) (cellsT U) Try.underlying26 hi]
  have : Try.prog.cellsOf 24 = 2 := by kernel_rfl
  rw [this]
  exact eqItems_cellsT 9997 T U w (List.range 8) (fun i hi => by simpa using hi)

theorem eqlTlb (T U : Nat → Int) (w : World) : (binOp .eql 26 (.agg (cellsT T)) (.agg (cellsT U))).run Try.prog w = .ok (.bool (sameT T U)) w := by
  rw [run_eql_struct, eqTlb]; rfl

theorem eqlEntry (h l h' l' : Int) (w : World) : (binOp .eql 24 (.agg #[.int .u32 h, .int .u32 l]) (.agg #[.int .u32 h', .int .u32 l'])).run Try.prog w = .ok (.bool (same2 h l h' l')) w := by
  rw [run_eql_struct, eqEntry]; rfl

theorem neqEntry (h l h' l' : Int) (w : World) : (binOp .neq 24 (.agg #[.int .u32 h, .int .u32 l]) (.agg #[.int .u32 h', .int .u32 l'])).run Try.prog w = .ok (.bool (!same2 h l h' l')) w := by
  rw [run_neq_struct, eqEntry]; rfl

/-- What a walk is told of the buffer's type: its size under a name, its noughts. -/
theorem sizeTlb (w : World) : (sizeOf 26).run Try.prog w = .ok N16 w := Try.sizeOf26 w

theorem zeroTlb (w : World) : (zeroValue 26).run Try.prog w = .ok (.agg (cellsT T0)) w := Try.zeroValue26 w

theorem loadTlb (w : World) (b : Nat) (h : isRow w b = true) (hn : (rowAt w b).size = N16) : (loadCellsFrom ⟨b, 0, none⟩ 0 N16 #[]).run Try.prog w = .ok (rowAt w b) w :=
  load_rowAt Try.prog w b N16 h hn

theorem storeTlb (T : Nat → Int) (w : World) (b : Nat) (h : isRow w b = true) (hn : (rowAt w b).size = N16) : (storeCells ⟨b, 0, none⟩ (cellsT T).toList 0).run Try.prog w = .ok () (w.setRow b (cellsT T)) := by
  refine store_rowAt Try.prog w b _ h (by rw [hn, size_cellsT]) fun v hv => ?_
  simp only [cellsT, List.mem_map] at hv
  obtain ⟨k, _, rfl⟩ := hv
  rfl

theorem indexTlb (T : Nat → Int) (s : Nat) (h : s < 8) (w : World) : (Instr.index 26 (.agg (cellsT T)) (.int .i64 (s : Int))).run Try.prog w = .ok (.agg #[.int .u32 (T (s * 2)), .int .u32 (T (s * 2 + 1))]) w := by
  have e : (0 : Int) ≤ (s : Int) ∧ (s : Int) < 8 := by omega
  have p := part_cellsT T s h
  simp only [Instr.index, asIntOf, Sem.run_bind, Sem.run_pure, Result.andThen_ok, Try.runUnderlying26]
  simp [e.2, Try.sizeOf24, p]

theorem loadSet (T : Nat → Int) (w : World) (b : Nat) (h : isRow w b = true) : (loadCellsFrom ⟨b, 0, none⟩ 0 N16 #[]).run Try.prog (w.setRow b (cellsT T)) = .ok (cellsT T) (w.setRow b (cellsT T)) := by
  have := loadTlb (w.setRow b (cellsT T)) b (by rw [isRow_setRow, h]) (by rw [rowAt_setRow w b _ h, size_cellsT])
  rwa [rowAt_setRow w b _ h] at this

end Go.Proofs.Ytdiijmjdnnolgaa
