/- Layer 7: a buffer as a row of sixteen words: its parts, what a write makes of it, and when two are the same. -/
import Derived.Test.YtmegghgjllbamaaGreatDoorQWholeAt
import Derived.ChangeKeysEq
import Derived.Laws.BitsAllLaws
import Derived.WalkKit
import Derived.RowKit3
import Derived.Deep.RegionHeld3
namespace Go.Proofs.YtmegghgjllbamaaGreatDoor.Tl
open Go.RowKit
set_option linter.unusedVariables false
set_option maxRecDepth 100000

/-- A buffer: word 2 k is the Hi, word 2 k + 1 the Lo of slot k. -/
def cellsT (T : Nat → Int) : Array Value := ((List.range 16).map fun k => Value.int .u32 (T k)).toArray

/-- Sixteen, so spelt that no walk opens a row of them. -/
def N16 : Nat := 16

/-- The buffer of noughts. -/
def T0 : Nat → Int := fun _ => 0

theorem size_cellsT (T : Nat → Int) : (cellsT T).size = N16 := by simp [cellsT, N16]

theorem get_cellsT (T : Nat → Int) (j : Nat) (h : j < 16) : (cellsT T)[j]? = some (.int .u32 (T j)) := by
  simp [cellsT, h]

/-- A buffer with h and l in slot s. -/
def putT (T : Nat → Int) (s : Nat) (h l : Int) : Nat → Int := fun k => if k = s * 2 then h else if k = s * 2 + 1 then l else T k

theorem cellsT_ext {T U : Nat → Int} (h : ∀ k, k < 16 → T k = U k) : cellsT T = cellsT U := by
  unfold cellsT
  congr 1
  apply List.map_congr_left
  intro k hk
  rw [h k (by simpa using hk)]

theorem set_cellsT (T : Nat → Int) (s : Nat) (h l : Int) : ((cellsT T).setIfInBounds (s * 2) (.int .u32 h)).setIfInBounds (s * 2 + 1) (.int .u32 l) = cellsT (putT T s h l) := by
  apply Array.ext_getElem?
  intro j
  have hs : (cellsT T).size = 16 := size_cellsT T
  rw [Array.getElem?_setIfInBounds, Array.getElem?_setIfInBounds, Array.size_setIfInBounds, hs]
  by_cases hj : j < 16
  · rw [get_cellsT _ j hj, get_cellsT _ j hj, putT]
    by_cases e1 : s * 2 + 1 = j
    · subst e1
      rw [if_pos rfl, if_pos hj, if_neg (by omega), if_pos rfl]
    · rw [if_neg e1]
      by_cases e2 : s * 2 = j
      · subst e2
        rw [if_pos rfl, if_pos hj, if_pos rfl]
      · rw [if_neg e2, if_neg (by omega), if_neg (by omega)]
  · have n1 : (cellsT T)[j]? = none := by simp; omega
    have n2 : (cellsT (putT T s h l))[j]? = none := by simp; have := size_cellsT (putT T s h l); simp [N16] at this; omega
    rw [n1, n2]
    repeat' split
    all_goals first | rfl | omega

theorem extract_cellsT (T : Nat → Int) (s : Nat) (h : s < 8) : (cellsT T).extract (s * 2) (s * 2 + 2) = #[.int .u32 (T (s * 2)), .int .u32 (T (s * 2 + 1))] := by
  apply Array.ext_getElem?
  intro j
  rw [Array.getElem?_extract]
  have hs : (cellsT T).size = 16 := size_cellsT T
  by_cases hj : j < 2
  · rw [if_pos (by omega), get_cellsT T _ (by omega)]
    obtain rfl | rfl : j = 0 ∨ j = 1 := by omega
    · simp
    · simp
  · rw [if_neg (by omega)]
    simp; omega

theorem part_cellsT (T : Nat → Int) (s : Nat) (h : s < 8) (w : World) : (part 36 (cellsT T) (s * 2)).run Tryz.prog w = .ok (.agg #[.int .u32 (T (s * 2)), .int .u32 (T (s * 2 + 1))]) w := by
  simp [part, Tryz.isAgg36, Tryz.sizeOf36, extract_cellsT T s h]

/-- Are two entries the same? -/
def same2 (h l h' l' : Int) : Bool := h == h' && l == l'

theorem same2_iff {h l h' l' : Int} : same2 h l h' l' = true ↔ h = h' ∧ l = l' := by simp [same2]

theorem eqEntry (d : Nat) (h l h' l' : Int) (w : World) : (Op.equalIn (d + 1 + 1) 36 (.agg #[.int .u32 h, .int .u32 l]) (.agg #[.int .u32 h', .int .u32 l'])).run Tryz.prog w = .ok (same2 h l h' l') w := by
  have hu : Tryz.prog.underlying 36 = some (.struct (Tryz.prog.fieldsOf 36)) := by kernel_rfl
  have hp : Tryz.prog.stoodInHeld 36 = false := by kernel_rfl
  rw [run_equalIn_agg w (d + 1) 36 _ _ hu hp]
  simp [go_sem, same2]
  repeat' split
  all_goals simp_all

theorem eqItems_cellsT (d : Nat) (T U : Nat → Int) (w : World) : ∀ is : List Nat, (∀ i ∈ is, i < 8) →
    (Op.eqItems (d + 1 + 1) 36 2 (cellsT T) (cellsT U) is).run Tryz.prog w = .ok (is.all fun i => same2 (T (i * 2)) (T (i * 2 + 1)) (U (i * 2)) (U (i * 2 + 1))) w
  | [], _ => by simp [Op.eqItems]
  | i :: is, h => by
    have hi : i < 8 := h i (by simp)
    have ih := eqItems_cellsT d T U w is (fun j hj => h j (by simp [hj]))
    simp only [Op.eqItems, Sem.run_bind, part_cellsT T i hi, part_cellsT U i hi, Result.andThen_ok, eqEntry]
    rw [List.all_cons]
    cases same2 (T (i * 2)) (T (i * 2 + 1)) (U (i * 2)) (U (i * 2 + 1))
    · simp
    · simp [ih]

/-- Are two buffers the same? -/
def sameT (T U : Nat → Int) : Bool := (List.range 8).all fun i => same2 (T (i * 2)) (T (i * 2 + 1)) (U (i * 2)) (U (i * 2 + 1))

theorem sameT_iff (T U : Nat → Int) : sameT T U = true ↔ ∀ k, k < 16 → T k = U k := by
  unfold sameT
  rw [List.all_eq_true]
  constructor
  · intro h k hk
    have := same2_iff.1 (h (k / 2) (by simp; omega))
    obtain e | e : k = k / 2 * 2 ∨ k = k / 2 * 2 + 1 := by omega
    · rw [e]; exact this.1
    · rw [e]; exact this.2
  · intro h i hi
    have : i < 8 := by simpa using hi
    exact same2_iff.2 ⟨h (i * 2) (by omega), h (i * 2 + 1) (by omega)⟩

theorem sameT_refl (T : Nat → Int) : sameT T T = true := (sameT_iff T T).2 fun _ _ => rfl

theorem eqTlb (T U : Nat → Int) (w : World) : (Op.equalIn 10000 38 (.agg (cellsT T)) (.agg (cellsT U))).run Tryz.prog w = .ok (sameT T U) w := by
  obtain ⟨i, hi⟩ := info_of_underlying Tryz.underlying36
  rw [run_equalIn_array w 9999 (cellsT T) (cellsT U) Tryz.underlying38 hi]
  have : Tryz.prog.cellsOf 36 = 2 := by kernel_rfl
  rw [this]
  exact eqItems_cellsT 9997 T U w (List.range 8) (fun i hi => by simpa using hi)

theorem eqlTlb (T U : Nat → Int) (w : World) : (binOp .eql 38 (.agg (cellsT T)) (.agg (cellsT U))).run Tryz.prog w = .ok (.bool (sameT T U)) w := by
  rw [run_eql_struct, eqTlb]; rfl

theorem eqlEntry (h l h' l' : Int) (w : World) : (binOp .eql 36 (.agg #[.int .u32 h, .int .u32 l]) (.agg #[.int .u32 h', .int .u32 l'])).run Tryz.prog w = .ok (.bool (same2 h l h' l')) w := by
  rw [run_eql_struct, eqEntry]; rfl

theorem neqEntry (h l h' l' : Int) (w : World) : (binOp .neq 36 (.agg #[.int .u32 h, .int .u32 l]) (.agg #[.int .u32 h', .int .u32 l'])).run Tryz.prog w = .ok (.bool (!same2 h l h' l')) w := by
  rw [run_neq_struct, eqEntry]; rfl

/-- What a walk is told of the buffer's type: its size under a name, its noughts. -/
theorem sizeTlb (w : World) : (sizeOf 38).run Tryz.prog w = .ok N16 w := Tryz.sizeOf38 w

theorem zeroTlb (w : World) : (zeroValue 38).run Tryz.prog w = .ok (.agg (cellsT T0)) w := Tryz.zeroValue38 w

theorem loadTlb (w : World) (b : Nat) (h : isRow w b = true) (hn : (rowAt w b).size = N16) : (loadCellsFrom ⟨b, 0, none⟩ 0 N16 #[]).run Tryz.prog w = .ok (rowAt w b) w :=
  load_rowAt Tryz.prog w b N16 h hn

theorem storeTlb (T : Nat → Int) (w : World) (b : Nat) (h : isRow w b = true) (hn : (rowAt w b).size = N16) : (storeCells ⟨b, 0, none⟩ (cellsT T).toList 0).run Tryz.prog w = .ok () (w.setRow b (cellsT T)) := by
  refine store_rowAt Tryz.prog w b _ h (by rw [hn, size_cellsT]) fun v hv => ?_
  simp only [cellsT, List.mem_map] at hv
  obtain ⟨k, _, rfl⟩ := hv
  rfl

theorem indexTlb (T : Nat → Int) (s : Nat) (h : s < 8) (w : World) : (Instr.index 38 (.agg (cellsT T)) (.int .i64 (s : Int))).run Tryz.prog w = .ok (.agg #[.int .u32 (T (s * 2)), .int .u32 (T (s * 2 + 1))]) w := by
  have e : (0 : Int) ≤ (s : Int) ∧ (s : Int) < 8 := by omega
  have p := part_cellsT T s h
  simp only [Instr.index, asIntOf, Sem.run_bind, Sem.run_pure, Result.andThen_ok, Tryz.runUnderlying38]
  simp [e.2, Tryz.sizeOf36, p]

theorem loadSet (T : Nat → Int) (w : World) (b : Nat) (h : isRow w b = true) : (loadCellsFrom ⟨b, 0, none⟩ 0 N16 #[]).run Tryz.prog (w.setRow b (cellsT T)) = .ok (cellsT T) (w.setRow b (cellsT T)) := by
  have := loadTlb (w.setRow b (cellsT T)) b (by rw [isRow_setRow, h]) (by rw [rowAt_setRow w b _ h, size_cellsT])
  rwa [rowAt_setRow w b _ h] at this

end Go.Proofs.YtmegghgjllbamaaGreatDoor.Tl

/- Layer 7: masks of a word of 32 bits, over whole numbers. -/
namespace Go.Proofs.YtmegghgjllbamaaGreatDoor.Tl
open Go

theorem split8 (x m : Nat) : x &&& m = (x / 256 &&& m / 256) * 256 + (x % 256 &&& m % 256) := by
  have h1 := Nat.and_div_two_pow (a := x) (b := m) (n := 8)
  have h2 := Nat.and_mod_two_pow (a := x) (b := m) (n := 8)
  simp only [show (2 : Nat) ^ 8 = 256 from rfl] at h1 h2
  omega

theorem all24 (x : Nat) (h : x < 4294967296) : x / 256 &&& 16777215 = x / 256 := by
  rw [show (16777215 : Nat) = 2 ^ 24 - 1 from rfl]
  exact Nat.and_two_pow_sub_one_of_lt_two_pow (by omega)

theorem low7 : ∀ n < 256, n &&& 7 = n % 8 := by decide +kernel
theorem low1 : ∀ n < 256, n &&& 1 = n % 2 := by decide +kernel
theorem low2 : ∀ n < 256, n &&& 2 = n / 2 % 2 * 2 := by decide +kernel
theorem low4 : ∀ n < 256, n &&& 4 = n / 4 % 2 * 4 := by decide +kernel
theorem low248 : ∀ n < 256, n &&& 248 = n / 8 * 8 := by decide +kernel
theorem low255 : ∀ n < 256, n &&& 255 = n := by decide +kernel

section
variable (a : Int) (h0 : 0 ≤ a) (h1 : a < 4294967296)
include h0 h1

theorem and255 : bits .and .u32 a 255 = a % 256 := by
  rw [u32_and a 255 h0 h1 (by omega) (by omega), split8]
  have := low255 (a.toNat % 256) (by omega)
  simp at this ⊢; omega

theorem and1 : bits .and .u32 a 1 = a % 2 := by
  rw [u32_and a 1 h0 h1 (by omega) (by omega), split8]
  have := low1 (a.toNat % 256) (by omega)
  simp at this ⊢; omega

theorem and2 : bits .and .u32 a 2 = a / 2 % 2 * 2 := by
  rw [u32_and a 2 h0 h1 (by omega) (by omega), split8]
  have := low2 (a.toNat % 256) (by omega)
  simp at this ⊢; omega

theorem and4 : bits .and .u32 a 4 = a / 4 % 2 * 4 := by
  rw [u32_and a 4 h0 h1 (by omega) (by omega), split8]
  have := low4 (a.toNat % 256) (by omega)
  simp at this ⊢; omega

theorem and248 : bits .and .u32 a 248 = a % 256 / 8 * 8 := by
  rw [u32_and a 248 h0 h1 (by omega) (by omega), split8]
  have := low248 (a.toNat % 256) (by omega)
  simp at this ⊢; omega

theorem andHigh : bits .and .u32 a 4294967040 = a / 256 * 256 := by
  rw [u32_and a 4294967040 h0 h1 (by omega) (by omega), split8]
  have := all24 a.toNat (by omega)
  simp at this ⊢; omega

theorem andHigh7 : bits .and .u32 a 4294967047 = a / 256 * 256 + a % 8 := by
  rw [u32_and a 4294967047 h0 h1 (by omega) (by omega), split8]
  have := all24 a.toNat (by omega)
  have := low7 (a.toNat % 256) (by omega)
  simp at *; omega

theorem andNot255 : bits .andNot .u32 a 255 = a / 256 * 256 := by
  rw [u32_andNot a 255 h0 h1 (by omega) (by omega), split8]
  have := all24 a.toNat (by omega)
  simp at this ⊢; omega

theorem andNot248 : bits .andNot .u32 a 248 = a / 256 * 256 + a % 8 := by
  rw [u32_andNot a 248 h0 h1 (by omega) (by omega), split8]
  have := all24 a.toNat (by omega)
  have := low7 (a.toNat % 256) (by omega)
  simp at *; omega

theorem orLow (b : Int) : bits .or .u32 (a / 256 * 256) (b % 256) = a / 256 * 256 + b % 256 := by
  rw [u32_or _ _ (by omega) (by omega) (by omega) (by omega)]
  rw [nat_join 8 (a / 256 * 256).toNat (b % 256).toNat (by simp; omega) (by simp; omega)]
  omega
end

theorem and7 (n : Int) : bits .and .i64 n 7 = n % 8 := by
  have e : (BitVec.ofInt 64 n &&& BitVec.ofInt 64 7).toNat = (n % 18446744073709551616).toNat % 8 := by
    rw [BitVec.toNat_and, BitVec.toNat_ofInt, BitVec.toNat_ofInt]
    have := Nat.and_two_pow_sub_one_eq_mod (n % 18446744073709551616).toNat 3
    exact this
  show IntKind.i64.wrap ((BitVec.ofInt 64 n &&& BitVec.ofInt 64 7).toNat : Int) = n % 8
  rw [e]
  simp [IntKind.wrap, IntKind.bits, IntKind.signed]
  omega

end Go.Proofs.YtmegghgjllbamaaGreatDoor.Tl

/- Layer 7: contracts of the program's inner functions, of Read and of Write. -/
namespace Go.Proofs.YtmegghgjllbamaaGreatDoor.Tl
open Go.RowKit
set_option linter.unusedVariables false
set_option maxRecDepth 100000

/-- What walks over buffers are told. -/
theorem tlbRules : (∀ w : World, (sizeOf 38).run Tryz.prog w = .ok N16 w) ∧ (∀ w : World, (zeroValue 38).run Tryz.prog w = .ok (.agg (cellsT T0)) w) ∧
    (∀ T : Nat → Int, (cellsT T).size = N16) ∧
    (∀ (T : Nat → Int) (w : World) (b : Nat), isRow w b = true → (rowAt w b).size = N16 → (storeCells ⟨b, 0, none⟩ (cellsT T).toList 0).run Tryz.prog w = .ok () (w.setRow b (cellsT T))) ∧
    (∀ (w : World) (b : Nat), isRow w b = true → (rowAt w b).size = N16 → (loadCellsFrom ⟨b, 0, none⟩ 0 N16 #[]).run Tryz.prog w = .ok (rowAt w b) w) ∧
    (∀ (w : World) (c : Array Value) (t : TypeId) (n : Nat), rowAt (w.alloc (.cells c t)) n = if n = w.heap.size then c else rowAt w n) ∧
    (∀ (w : World) (c : Array Value) (t : TypeId) (n : Nat), isRow (w.alloc (.cells c t)) n = if n = w.heap.size then true else isRow w n) ∧
    (∀ (w : World) (c c' : Array Value) (t : TypeId) (n : Nat), (w.alloc (.cells c t)).setRow n c' = if n = w.heap.size then w.alloc (.cells c' t) else (w.setRow n c').alloc (.cells c t)) ∧
    (∀ (T : Nat → Int) (w : World) (b : Nat), isRow w b = true → (loadCellsFrom ⟨b, 0, none⟩ 0 N16 #[]).run Tryz.prog (w.setRow b (cellsT T)) = .ok (cellsT T) (w.setRow b (cellsT T))) :=
  ⟨sizeTlb, zeroTlb, size_cellsT, storeTlb, loadTlb, rowAt_alloc, isRow_alloc, setRow_alloc, loadSet⟩

theorem with_any (T : Nat → Int) (s : Nat) (h l : Int) (hs : s < 8) (w : World) :
    Calls Tryz.prog 120 #[.agg (cellsT T), .int .i64 (s : Int), .agg #[.int .u32 h, .int .u32 l]] w fun e w' =>
      e = .returned (.agg (cellsT (putT T s h l))) ∧ Below w.heap.size w w' := by
  obtain ⟨t1, t2, t3, t4, t5, t6, t7, t8, t9⟩ := tlbRules
  have c0 := get_cellsT T (s * 2) (by omega)
  have c1 := get_cellsT T (s * 2 + 1) (by omega)
  have c2 := set_cellsT T s h l
  go_enter Tryz.func120, Tryz.ntmps120
  go_wp2
  refine bodyPost_ret (v := .agg (cellsT (putT T s h l))) (by simp [results, Tryz.results120, go_sem, t1, t3, t5, t6, t7]) rfl ⟨rfl, ?_⟩
  exact (((Below.refl _ w).alloc (Nat.le_refl _) _).alloc (by simp) _).alloc (by simp; omega) _

/-- The highest 24 bits of one word, with the lowest 8 of another one. -/
def joinV (a b : Int) : Int := a / 256 * 256 + b % 256

theorem join_any (a b : Int) (a0 : 0 ≤ a) (a1 : a < 4294967296) (b0 : 0 ≤ b) (b1 : b < 4294967296) (w : World) :
    Calls Tryz.prog 128 #[.int .u32 a, .int .u32 b] w fun e w' => e = .returned (.int .u32 (joinV a b)) ∧ w' = w := by
  have e1 := andNot255 a a0 a1
  have e2 := and255 b b0 b1
  have e3 := orLow a a0 a1 b
  unfold joinV
  go_enter Tryz.func128, Tryz.ntmps128
  go_wp2
  go_ret
  exact ⟨rfl, rfl⟩

theorem isSlot_any (s : Int) (w : World) :
    Calls Tryz.prog 119 #[.int .i64 s] w fun e w' => e = .returned (.bool (decide (0 ≤ s ∧ s < 8))) ∧ w' = w := by
  go_enter Tryz.func119, Tryz.ntmps119
  by_cases h : 0 ≤ s
  · have hd : decide (0 ≤ s) = true := by simpa using h
    by_cases k : s < 8
    · have kd : decide (s < 8) = true := by simpa using k
      go_wp2
      go_ret
      exact ⟨by simp [h, k], rfl⟩
    · have kd : decide (s < 8) = false := by simpa using k
      go_wp2
      go_ret
      exact ⟨by simp, rfl⟩
  · have hd : decide (0 ≤ s) = false := by simpa using h
    go_wp2
    go_ret
    exact ⟨by simp, rfl⟩

/-- The Hi of an entry that is made to fit. -/
def fitV (h l a s : Int) : Int := joinV a (if l % 2 = 0 then s else h)

theorem fitted_any (h l a s : Int) (h0 : 0 ≤ h) (h1 : h < 4294967296) (l0 : 0 ≤ l) (l1 : l < 4294967296) (a0 : 0 ≤ a) (a1 : a < 4294967296) (s0 : 0 ≤ s) (s1 : s < 4294967296) (w : World) :
    Calls Tryz.prog 129 #[.agg #[.int .u32 h, .int .u32 l], .int .u32 a, .int .u32 s] w fun e w' =>
      e = .returned (.agg #[.int .u32 (fitV h l a s), .int .u32 l]) ∧ Below w.heap.size w w' := by
  have e1 := and1 l l0 l1
  go_enter Tryz.func129, Tryz.ntmps129
  by_cases hl : l % 2 = 0
  · have ht : (l % 2 != 0) = false := by simp [hl]
    have hv : fitV h l a s = joinV a s := by simp [fitV, hl]
    go_wp2_with (go_at_call 128; refine (join_any a s a0 a1 s0 s1 _).mono ?_; rintro e w' ⟨rfl, rfl⟩)
    refine bodyPost_ret (v := .agg #[.int .u32 (joinV a s), .int .u32 l]) (by simp [results, Tryz.results129, go_sem]) rfl ⟨by rw [hv], ?_⟩
    exact ((Below.refl _ w).alloc (Nat.le_refl _) _).alloc (by simp) _
  · have ht : (l % 2 != 0) = true := by simp [hl]
    have hv : fitV h l a s = joinV a h := by simp [fitV, hl]
    go_wp2_with (go_at_call 128; refine (join_any a h a0 a1 h0 h1 _).mono ?_; rintro e w' ⟨rfl, rfl⟩)
    refine bodyPost_ret (v := .agg #[.int .u32 (joinV a h), .int .u32 l]) (by simp [results, Tryz.results129, go_sem]) rfl ⟨by rw [hv], ?_⟩
    exact ((Below.refl _ w).alloc (Nat.le_refl _) _).alloc (by simp) _

end Go.Proofs.YtmegghgjllbamaaGreatDoor.Tl

/- Layer 7: contracts of Read and Write, of the program and of the document. -/
namespace Go.Proofs.YtmegghgjllbamaaGreatDoor.Tl
open Go.RowKit
set_option linter.unusedVariables false
set_option maxRecDepth 100000

theorem isSlot_in (s : Nat) (hs : s < 8) (w : World) : Calls Tryz.prog 119 #[.int .i64 (s : Int)] w fun e w' => e = .returned (.bool true) ∧ w' = w := by
  have := isSlot_any s w
  rwa [show decide (0 ≤ (s : Int) ∧ (s : Int) < 8) = true by simp; omega] at this

theorem isSlot_out (s : Int) (hs : ¬ (0 ≤ s ∧ s < 8)) (w : World) : Calls Tryz.prog 119 #[.int .i64 s] w fun e w' => e = .returned (.bool false) ∧ w' = w := by
  have := isSlot_any s w
  rwa [show decide (0 ≤ s ∧ s < 8) = false by simpa using hs] at this

theorem read_in (T : Nat → Int) (s : Nat) (hs : s < 8) (w : World) :
    Calls Tryz.prog 95 #[.agg (cellsT T), .int .i64 (s : Int)] w fun e w' =>
      e = .returned (.tuple #[.agg #[.int .u32 (T (s * 2)), .int .u32 (T (s * 2 + 1))], .int .i64 0]) ∧ Below w.heap.size w w' := by
  obtain ⟨t1, t2, t3, t4, t5, t6, t7, t8, t9⟩ := tlbRules
  have c0 := get_cellsT T (s * 2) (by omega)
  have c1 := get_cellsT T (s * 2 + 1) (by omega)
  go_enter Tryz.func95, Tryz.ntmps95
  go_wp2_with (go_at_call 119; refine (isSlot_in s hs _).mono ?_; rintro e w' ⟨rfl, rfl⟩)
  refine bodyPost_ret (v := .tuple #[.agg #[.int .u32 (T (s * 2)), .int .u32 (T (s * 2 + 1))], .int .i64 0]) (by simp [results, Tryz.results95, go_sem]) rfl ⟨rfl, ?_⟩
  exact ((Below.refl _ w).alloc (Nat.le_refl _) _).alloc (by simp) _

theorem read_out (T : Nat → Int) (s : Int) (hs : ¬ (0 ≤ s ∧ s < 8)) (w : World) :
    Calls Tryz.prog 95 #[.agg (cellsT T), .int .i64 s] w fun e w' =>
      e = .returned (.tuple #[.agg #[.int .u32 0, .int .u32 0], .int .i64 70]) ∧ Below w.heap.size w w' := by
  obtain ⟨t1, t2, t3, t4, t5, t6, t7, t8, t9⟩ := tlbRules
  go_enter Tryz.func95, Tryz.ntmps95
  go_wp2_with (go_at_call 119; refine (isSlot_out s hs _).mono ?_; rintro e w' ⟨rfl, rfl⟩)
  refine bodyPost_ret (v := .tuple #[.agg #[.int .u32 0, .int .u32 0], .int .i64 70]) (by simp [results, Tryz.results95, go_sem]) rfl ⟨rfl, ?_⟩
  exact ((Below.refl _ w).alloc (Nat.le_refl _) _).alloc (by simp) _

/-- The Lo of an entry that is written. -/
def loV (l : Int) : Int := l / 256 * 256 + l % 8

theorem write_in (T : Nat → Int) (s : Nat) (hs : s < 8) (h l : Int) (l0 : 0 ≤ l) (l1 : l < 4294967296) (w : World) :
    Calls Tryz.prog 96 #[.agg (cellsT T), .int .i64 (s : Int), .agg #[.int .u32 h, .int .u32 l]] w fun e w' =>
      e = .returned (.tuple #[.agg (cellsT (putT T s h (loV l))), .int .i64 0]) ∧ Below w.heap.size w w' := by
  obtain ⟨t1, t2, t3, t4, t5, t6, t7, t8, t9⟩ := tlbRules
  have e1 : bits .andNot .u32 l 248 = loV l := andNot248 l l0 l1
  go_enter Tryz.func96, Tryz.ntmps96
  go_wp2_with (go_at_call 119; refine (isSlot_in s hs _).mono ?_; rintro e w' ⟨rfl, rfl⟩)
  refine (with_any T s h (loV l) hs _).mono ?_
  rintro e w1 ⟨rfl, hb⟩
  obtain ⟨hr, hi⟩ := brow hb
  have z : w.heap.size + 1 + 1 < w1.heap.size := by have := hb.size; simp at this; omega
  go_wp2
  refine bodyPost_ret (v := .tuple #[.agg (cellsT (putT T s h (loV l))), .int .i64 0]) (by simp [results, Tryz.results96, go_sem, t1, t7, t9, hi]) rfl ⟨rfl, ?_⟩
  exact below_setRow (((((Below.refl _ w).alloc (Nat.le_refl _) _).alloc (by simp) _).alloc (by simp; omega) _).trans (hb.mono (by simp; omega))) (by omega) _

theorem write_out (T : Nat → Int) (s : Int) (hs : ¬ (0 ≤ s ∧ s < 8)) (h l : Int) (w : World) :
    Calls Tryz.prog 96 #[.agg (cellsT T), .int .i64 s, .agg #[.int .u32 h, .int .u32 l]] w fun e w' =>
      e = .returned (.tuple #[.agg (cellsT T0), .int .i64 70]) ∧ Below w.heap.size w w' := by
  obtain ⟨t1, t2, t3, t4, t5, t6, t7, t8, t9⟩ := tlbRules
  go_enter Tryz.func96, Tryz.ntmps96
  go_wp2_with (go_at_call 119; refine (isSlot_out s hs _).mono ?_; rintro e w' ⟨rfl, rfl⟩)
  refine bodyPost_ret (v := .tuple #[.agg (cellsT T0), .int .i64 70]) (by simp [results, Tryz.results96, go_sem, t1, t3, t5, t6, t7]) rfl ⟨rfl, ?_⟩
  exact (((Below.refl _ w).alloc (Nat.le_refl _) _).alloc (by simp) _).alloc (by simp; omega) _

end Go.Proofs.YtmegghgjllbamaaGreatDoor.Tl

/- Layer 7: contracts of Find, of the program and of the document: the least slot that fits. -/
namespace Go.Proofs.YtmegghgjllbamaaGreatDoor.Tl
open Go.RowKit
set_option linter.unusedVariables false
set_option maxRecDepth 100000

/-- All words of a buffer are words. -/
def Wd (T : Nat → Int) : Prop := ∀ k, 0 ≤ T k ∧ T k < 4294967296

/-- Does slot i fit an address in a space? -/
def fit (T : Nat → Int) (a s : Int) (i : Nat) : Prop := T (i * 2) / 256 = a / 256 ∧ (T (i * 2 + 1) % 2 = 1 ∨ T (i * 2) % 256 = s % 256)

instance (T : Nat → Int) (a s : Int) (i : Nat) : Decidable (fit T a s i) := by unfold fit; infer_instance

theorem same_fit (T : Nat → Int) (a s : Int) (i : Nat) (hi : i < 8) : sameT (putT T i (fitV (T (i * 2)) (T (i * 2 + 1)) a s) (T (i * 2 + 1))) T = decide (fit T a s i) := by
  have key : sameT (putT T i (fitV (T (i * 2)) (T (i * 2 + 1)) a s) (T (i * 2 + 1))) T = true ↔ fit T a s i := by
    rw [sameT_iff]
    constructor
    · intro h
      have := h (i * 2) (by omega)
      simp only [putT, ↓reduceIte, fitV, joinV] at this
      unfold fit
      split at this <;> omega
    · intro h k hk
      unfold putT
      split
      · rename_i e; subst e
        unfold fit at h
        unfold fitV joinV
        split <;> omega
      · split
        · rename_i e; subst e; rfl
        · rfl
  cases hb : sameT (putT T i (fitV (T (i * 2)) (T (i * 2 + 1)) a s) (T (i * 2 + 1))) T
  · symm; simp; intro h; rw [key.2 h] at hb; cases hb
  · symm; simp; exact key.1 hb

/-- k is the least slot that fits, or -1. -/
def FindIs (T : Nat → Int) (a s k : Int) : Prop := (k = -1 ∧ ∀ i, i < 8 → ¬ fit T a s i) ∨ ∃ i : Nat, i < 8 ∧ k = i ∧ fit T a s i ∧ ∀ j, j < i → ¬ fit T a s j

theorem FindIs.one {T : Nat → Int} {a s k k' : Int} (h : FindIs T a s k) (h' : FindIs T a s k') : k = k' := by
  rcases h with ⟨e, n⟩ | ⟨i, hi, e, f, n⟩ <;> rcases h' with ⟨e', n'⟩ | ⟨i', hi', e', f', n'⟩
  · omega
  · exact absurd f' (n i' hi')
  · exact absurd f (n' i hi)
  · have : ¬ i < i' := fun c => n' i c f
    have : ¬ i' < i := fun c => n i' c f'
    omega

/-- Till slot k none fits. -/
def NoneTill (T : Nat → Int) (a s : Int) (k : Nat) : Prop := ∀ j, j < k → ¬ fit T a s j

theorem NoneTill.zero (T : Nat → Int) (a s : Int) : NoneTill T a s 0 := fun j h => by omega

theorem NoneTill.next {T : Nat → Int} {a s : Int} {k : Nat} (h : NoneTill T a s k) (n : ¬ fit T a s k) : NoneTill T a s (k + 1) := fun j hj => by
  rcases Nat.lt_succ_iff_lt_or_eq.mp hj with h1 | h1
  · exact h j h1
  · rw [h1]; exact n

/-- What stands behind a call within Find's round. -/
theorem find_on {n L R : Nat} {w x y : World} {c : Array Value} {u v : Value}
    (hS : (loadCellsFrom ⟨L, 0, none⟩ 0 N16 #[]).run Tryz.prog x = .ok c x ∧ x.cell? ⟨R, 0, none⟩ = some u ∧ x.cell? ⟨R, 1, none⟩ = some v ∧ (isRow x L = true ∧ rowAt x L = c ∧ c.size = N16 ∧ L < x.heap.size ∧ R < x.heap.size ∧ Below n w x)) (hn : n ≤ w.heap.size) (hb : Below x.heap.size x y) :
    (loadCellsFrom ⟨L, 0, none⟩ 0 N16 #[]).run Tryz.prog y = .ok c y ∧ y.cell? ⟨R, 0, none⟩ = some u ∧ y.cell? ⟨R, 1, none⟩ = some v ∧ (isRow y L = true ∧ rowAt y L = c ∧ c.size = N16 ∧ L < y.heap.size ∧ R < y.heap.size ∧ Below n w y) := by
  obtain ⟨h0, h1, h2, h3, h4, h5, h6, h7, h8⟩ := hS
  obtain ⟨hc, hf⟩ := bcell hb
  obtain ⟨hr, hi⟩ := brow hb
  have z := hb.size
  have z2 := h8.size
  have i' : isRow y L = true := by rw [hi _ h6, h3]
  have r' : rowAt y L = c := by rw [hr _ h6, h4]
  exact ⟨by have := loadTlb y L i' (by rw [r', h5]); rwa [r'] at this, by rw [hc _ _ h7, h1], by rw [hc _ _ h7, h2], i', r', h5, by omega, by omega, h8.trans (hb.mono (by omega))⟩

theorem find_start {n L : Nat} {w wr : World} {c : Array Value} (h3 : isRow wr L = true) (h4 : rowAt wr L = c) (h5 : c.size = N16) (h6 : L < wr.heap.size) (h8 : Below n w wr) (hn : n ≤ w.heap.size) (u v : Value) (t : TypeId) :
    (loadCellsFrom ⟨L, 0, none⟩ 0 N16 #[]).run Tryz.prog (wr.alloc (.cells #[u, v] t)).drew = .ok c (wr.alloc (.cells #[u, v] t)).drew ∧ (wr.alloc (.cells #[u, v] t)).drew.cell? ⟨wr.heap.size, 0, none⟩ = some u ∧ (wr.alloc (.cells #[u, v] t)).drew.cell? ⟨wr.heap.size, 1, none⟩ = some v ∧
      (isRow (wr.alloc (.cells #[u, v] t)).drew L = true ∧ rowAt (wr.alloc (.cells #[u, v] t)).drew L = c ∧ c.size = N16 ∧ L < (wr.alloc (.cells #[u, v] t)).drew.heap.size ∧ wr.heap.size < (wr.alloc (.cells #[u, v] t)).drew.heap.size ∧ Below n w (wr.alloc (.cells #[u, v] t)).drew) := by
  have i' : isRow (wr.alloc (.cells #[u, v] t)).drew L = true := by rw [isRow_drew, isRow_old _ _ _ h6, h3]
  have r' : rowAt (wr.alloc (.cells #[u, v] t)).drew L = c := by rw [rowAt_drew, rowAt_old _ _ _ h6, h4]
  have z := h8.size
  exact ⟨by have := loadTlb _ L i' (by rw [r', h5]); rwa [r'] at this, by simp [go_sem], by simp [go_sem], i', r', h5, by simp; omega, by simp, (h8.alloc (by omega) _).drew⟩

set_option maxHeartbeats 2000000 in
theorem find_any (T : Nat → Int) (a s : Int) (hT : Wd T) (a0 : 0 ≤ a) (a1 : a < 4294967296) (s0 : 0 ≤ s) (s1 : s < 4294967296) (w : World) :
    Calls Tryz.prog 121 #[.agg (cellsT T), .int .u32 a, .int .u32 s] w fun e w' =>
      ∃ k, FindIs T a s k ∧ e = .returned (.int .i64 k) ∧ Below w.heap.size w w' := by
  obtain ⟨t1, t2, t3, t4, t5, t6, t7, t8, t9⟩ := tlbRules
  go_enter Tryz.func121, Tryz.ntmps121
  go_wp2
  go_loopw [10] (fun i wr => ∃ k : Nat, k ≤ 8 ∧ i = .int .i64 k ∧ Hid (NoneTill T a s k) ∧ Hid (Below w.heap.size w wr) ∧ Hid (isRow wr w.heap.size = true ∧ rowAt wr w.heap.size = cellsT T ∧ w.heap.size < wr.heap.size)) (fun i _ => 8 - (intOf i).toNat)
  case atStart => exact ⟨0, by omega, rfl, hide (NoneTill.zero T a s), hide ((Below.refl _ w).alloc (Nat.le_refl _) _), hide ⟨isRow_new _ _ _, rowAt_new _ _ _, by simp⟩⟩
  case round =>
    obtain ⟨k, hk, rfl, hno, hB, hL⟩ := hrel
    by_cases hlt : k < 8
    · have h1 : (k : Int) < 8 := by omega
      have x1 := indexTlb T k hlt
      obtain ⟨f, hf⟩ : ∃ f, Hid (f = fitV (T (k * 2)) (T (k * 2 + 1)) a s) := ⟨_, hide rfl⟩
      have cf := fun w => fitted_any (T (k * 2)) (T (k * 2 + 1)) a s (hT _).1 (hT _).2 (hT _).1 (hT _).2 a0 a1 s0 s1 w
      have cw := fun w => with_any T k f (T (k * 2 + 1)) hlt w
      have ce := fun w => eqlTlb (putT T k f (T (k * 2 + 1))) T w
      rw [← hf.out] at cf
      rw [show sameT (putT T k f (T (k * 2 + 1))) T = decide (fit T a s k) by rw [hf.out]; exact same_fit T a s k hlt] at ce
      clear hf
      generalize putT T k f (T (k * 2 + 1)) = U at cw ce
      obtain ⟨hL1, hL2, hL3⟩ := hL.out
      go_wp2_with fail
      have hS := find_start hL1 hL2 (size_cellsT T) hL3 hB.out (Nat.le_refl _) (.int .u32 (T (k * 2))) (.int .u32 (T (k * 2 + 1))) 36
      generalize wr.alloc (.cells #[.int .u32 (T (k * 2)), .int .u32 (T (k * 2 + 1))] 36) = V at hS ⊢
      generalize wr.heap.size = R at hS ⊢
      clear hL hL1 hL2 hL3 hB t1 t2 t3 t4 t5 t6 t7 t8 t9
      have t1 := sizeTlb
      go_region_held3 (fun x => (loadCellsFrom ⟨w.heap.size, 0, none⟩ 0 N16 #[]).run Tryz.prog x = .ok (cellsT T) x ∧ x.cell? ⟨R, 0, none⟩ = some (.int .u32 (T (k * 2))) ∧ x.cell? ⟨R, 1, none⟩ = some (.int .u32 (T (k * 2 + 1))) ∧ (isRow x w.heap.size = true ∧ rowAt x w.heap.size = cellsT T ∧ (cellsT T).size = N16 ∧ w.heap.size < x.heap.size ∧ R < x.heap.size ∧ Below w.heap.size w x))
        (first | exact hS | assumption)
        (first
          | (go_at_call 129; refine (cf _).mono ?_; rintro e w' ⟨rfl, hn⟩; have hT := find_on (by assumption) (Nat.le_refl _) hn; clear hn)
          | (go_at_call 120; refine (cw _).mono ?_; rintro e w' ⟨rfl, hn⟩; have hT := find_on (by assumption) (Nat.le_refl _) hn; clear hn))
      have hB := hide hT.2.2.2.2.2.2.2.2
      have hL := hide (And.intro hT.2.2.2.1 (And.intro hT.2.2.2.2.1 hT.2.2.2.2.2.2.1))
      clear hT cf cw ce hS x1
      by_cases hq : fit T a s k
      · have hd : decide (fit T a s k) = true := by simpa using hq
        rw [hd]
        have hF := hide (Or.inr ⟨k, hlt, rfl, hq, hno.out⟩ : FindIs T a s k)
        clear hq hd hno
        go_wp2
        go_ret
        exact ⟨k, hF.out, rfl, hB.out⟩
      · have hd : decide (fit T a s k) = false := by simpa using hq
        rw [hd]
        have hn := hide (hno.out.next hq)
        clear hq hd hno
        go_wp2
        go_roundw
        case rel => exact ⟨k + 1, by omega, by go_num, hn, hB, hL⟩
        case measure => simp [intOf]; omega
    · have hx : k = 8 := by omega
      subst hx
      go_wp2
      go_ret
      exact ⟨-1, Or.inl ⟨rfl, hno.out⟩, rfl, hB.out⟩

end Go.Proofs.YtmegghgjllbamaaGreatDoor.Tl

/- Layer 7: contracts of Map, of the program and of the document. -/
namespace Go.Proofs.YtmegghgjllbamaaGreatDoor.Tl
open Go.RowKit
set_option linter.unusedVariables false
set_option maxRecDepth 100000

/-- What becomes of an address, if the slot that fits is k (-1: there is none): a word, and how it is told. -/
def mapV (T : Nat → Int) (a : Int) (wr : Bool) (k : Int) : Int × Int :=
  if k < 0 then (0, 1) else if T (k.toNat * 2 + 1) / 2 % 2 = 0 then (0, 2) else if wr = true ∧ T (k.toNat * 2 + 1) / 4 % 2 = 0 then (0, 3) else (joinV (T (k.toNat * 2 + 1)) a, 0)

theorem cells_on {T : Nat → Int} {w y : World} {t : TypeId} (hb : Below (w.alloc (.cells (cellsT T) t)).heap.size (w.alloc (.cells (cellsT T) t)) y) (j : Nat) (hj : j < 16) : y.cell? ⟨w.heap.size, j, none⟩ = some (.int .u32 (T j)) := by
  rw [(bcell hb).1 _ _ (by simp)]
  simp [get_cellsT T j hj]

theorem map_any (T : Nat → Int) (a s : Int) (wr : Bool) (hT : Wd T) (a0 : 0 ≤ a) (a1 : a < 4294967296) (s0 : 0 ≤ s) (s1 : s < 4294967296) (w : World) :
    Calls Tryz.prog 117 #[.agg (cellsT T), .int .u32 a, .int .u32 s, .bool wr] w fun e w' =>
      ∃ k, FindIs T a s k ∧ e = .returned (.tuple #[.int .u32 (mapV T a wr k).1, .int .i64 (mapV T a wr k).2]) ∧ Below w.heap.size w w' := by
  obtain ⟨t1, t2, t3, t4, t5, t6, t7, t8, t9⟩ := tlbRules
  go_enter Tryz.func117, Tryz.ntmps117
  go_wp2_with fail
  refine (find_any T a s hT a0 a1 s0 s1 _).mono ?_
  rintro e w1 ⟨k, hF, rfl, hb⟩
  have hB := hide (((Below.refl _ w).alloc (Nat.le_refl _) (.cells (cellsT T) 38)).trans (hb.mono (by simp)))
  have hc := cells_on hb
  clear hb
  have hF' := hide hF
  rcases hF with ⟨rfl, _⟩ | ⟨i, hi, rfl, _, _⟩
  · go_wp2
    go_ret2
    exact ⟨-1, hF'.out, rfl, hB.out⟩
  · have c0 := hc (i * 2) (by omega)
    have c1 := hc (i * 2 + 1) (by omega)
    have z1 : w.heap.size < w1.heap.size := World.block_lt_of_cell? _ _ c0
    have w1' := hT (i * 2 + 1)
    have hV : mapV T a wr (i : Int) = if T (i * 2 + 1) / 2 % 2 = 0 then (0, 2) else if wr = true ∧ T (i * 2 + 1) / 4 % 2 = 0 then (0, 3) else (joinV (T (i * 2 + 1)) a, 0) := by
      unfold mapV
      rw [if_neg (by omega)]
      rfl
    have hQ : ((i : Int) == -1) = false := by simp
    obtain ⟨l, hl⟩ : ∃ l, Hid (l = T (i * 2 + 1)) := ⟨_, hide rfl⟩
    rw [← hl.out] at c1 w1' hV
    clear hl hc
    obtain ⟨l0, l1⟩ := w1'
    have hV := hide hV
    by_cases q1 : l / 2 % 2 = 0
    · have d1 : bits .and .u32 l 2 = 0 := by rw [and2 l l0 l1]; omega
      have hW := hide (show mapV T a wr (i : Int) = (0, 2) by rw [hV.out, if_pos q1])
      clear hV q1
      go_wp2
      go_ret2
      exact ⟨i, hF'.out, by rw [hW.out]; rfl, hB.out.alloc hB.out.size _⟩
    · have d1 : bits .and .u32 l 2 = 2 := by rw [and2 l l0 l1]; omega
      by_cases q2 : wr = true ∧ l / 4 % 2 = 0
      · have hW := hide (show mapV T a wr (i : Int) = (0, 3) by rw [hV.out, if_neg q1, if_pos q2])
        obtain ⟨rfl, q2⟩ := q2
        have d2 : bits .and .u32 l 4 = 0 := by rw [and4 l l0 l1]; omega
        clear hV q1 q2
        go_wp2
        go_ret2
        exact ⟨i, hF'.out, by rw [hW.out]; rfl, hB.out.alloc hB.out.size _⟩
      · have hW := hide (show mapV T a wr (i : Int) = (joinV l a, 0) by rw [hV.out, if_neg q1, if_neg q2])
        have cj := fun w => join_any l a l0 l1 a0 a1 w
        cases wr
        · clear hV q1 q2
          go_wp2_with (go_at_call 128; refine (cj _).mono ?_; rintro e w' ⟨rfl, rfl⟩)
          go_ret2
          exact ⟨i, hF'.out, by rw [hW.out]; rfl, hB.out.alloc hB.out.size _⟩
        · have d2 : bits .and .u32 l 4 = 4 := by simp at q2; rw [and4 l l0 l1]; omega
          clear hV q1 q2
          go_wp2_with (go_at_call 128; refine (cj _).mono ?_; rintro e w' ⟨rfl, rfl⟩)
          go_ret2
          exact ⟨i, hF'.out, by rw [hW.out]; rfl, hB.out.alloc hB.out.size _⟩

end Go.Proofs.YtmegghgjllbamaaGreatDoor.Tl
