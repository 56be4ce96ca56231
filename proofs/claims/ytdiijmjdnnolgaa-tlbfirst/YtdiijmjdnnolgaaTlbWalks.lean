/- Layer 7: contracts of the program's inner functions, of Read and of Write. -/
import Derived.Test.YtdiijmjdnnolgaaTlbPlain
import Derived.Test.YtdiijmjdnnolgaaTlbBits
namespace Go.Proofs.Ytdiijmjdnnolgaa
open Go.RowKit
set_option linter.unusedVariables false

/-- What walks over buffers are told. -/
theorem tlbRules : (∀ w : World, (sizeOf 26).run Try.prog w = .ok N16 w) ∧ (∀ w : World, (zeroValue 26).run Try.prog w = .ok (.agg (cellsT T0)) w) ∧
    (∀ T : Nat → Int, (cellsT T).size = N16) ∧
    (∀ (T : Nat → Int) (w : World) (b : Nat), isRow w b = true → (rowAt w b).size = N16 → (storeCells ⟨b, 0, none⟩ (cellsT T).toList 0).run Try.prog w = .ok () (w.setRow b (cellsT T))) ∧
    (∀ (w : World) (b : Nat), isRow w b = true → (rowAt w b).size = N16 → (loadCellsFrom ⟨b, 0, none⟩ 0 N16 #[]).run Try.prog w = .ok (rowAt w b) w) ∧
    (∀ (w : World) (c : Array Value) (t : TypeId) (n : Nat), rowAt (w.alloc (.cells c t)) n = if n = w.heap.size then c else rowAt w n) ∧
    (∀ (w : World) (c : Array Value) (t : TypeId) (n : Nat), isRow (w.alloc (.cells c t)) n = if n = w.heap.size then true else isRow w n) ∧
    (∀ (w : World) (c c' : Array Value) (t : TypeId) (n : Nat), (w.alloc (.cells c t)).setRow n c' = if n = w.heap.size then w.alloc (.cells c' t) else (w.setRow n c').alloc (.cells c t)) ∧
    (∀ (T : Nat → Int) (w : World) (b : Nat), isRow w b = true → (loadCellsFrom ⟨b, 0, none⟩ 0 N16 #[]).run Try.prog (w.setRow b (cellsT T)) = .ok (cellsT T) (w.setRow b (cellsT T))) :=
  ⟨sizeTlb, zeroTlb, size_cellsT, storeTlb, loadTlb, rowAt_alloc, isRow_alloc, setRow_alloc, loadSet⟩

theorem with_any (T : Nat → Int) (s : Nat) (h l : Int) (hs : s < 8) (w : World) :
    Calls Try.prog 16 #[.agg (cellsT T), .int .i64 (s : Int), .agg #[.int .u32 h, .int .u32 l]] w fun e w' =>
      e = .returned (.agg (cellsT (putT T s h l))) ∧ Below w.heap.size w w' := by
  obtain ⟨t1, t2, t3, t4, t5, t6, t7, t8, t9⟩ := tlbRules
  have c0 := get_cellsT T (s * 2) (by omega)
  have c1 := get_cellsT T (s * 2 + 1) (by omega)
  have c2 := set_cellsT T s h l
  go_enter Try.func16, Try.ntmps16
  go_wp2
  refine bodyPost_ret (v := .agg (cellsT (putT T s h l))) (by simp [results, Try.results16, go_sem, t1, t3, t5, t6, t7]) rfl ⟨rfl, ?_⟩
  exact (((Below.refl _ w).alloc (Nat.le_refl _) _).alloc (by simp) _).alloc (by simp; omega) _

/-- The highest 24 bits of one word, with the lowest 8 of another one. -/
def joinV (a b : Int) : Int := a / 256 * 256 + b % 256

theorem join_any (a b : Int) (a0 : 0 ≤ a) (a1 : a < 4294967296) (b0 : 0 ≤ b) (b1 : b < 4294967296) (w : World) :
    Calls Try.prog 17 #[.int .u32 a, .int .u32 b] w fun e w' => e = .returned (.int .u32 (joinV a b)) ∧ w' = w := by
  have e1 := andNot255 a a0 a1
  have e2 := and255 b b0 b1
  have e3 := orLow a a0 a1 b
  unfold joinV
  go_enter Try.func17, Try.ntmps17
  go_wp2
  go_ret
  exact ⟨rfl, rfl⟩

theorem isSlot_any (s : Int) (w : World) :
    Calls Try.prog 15 #[.int .i64 s] w fun e w' => e = .returned (.bool (decide (0 ≤ s ∧ s < 8))) ∧ w' = w := by
  go_enter Try.func15, Try.ntmps15
  by_cases h : 0 ≤ s
  · have hd : decide (0 ≤ s) = true := by simpa using h
    by_cases k : s < 8
    · have kd : decide (s < 8) = true := by simpa using k
      go_wp2
      go_ret
      exact ⟨by simp [h, k], rfl⟩
    · have kd : decide (s < 8) = false := by simpa using k
      go_wp2
      go_ret
      exact ⟨by simp, rfl⟩
  · have hd : decide (0 ≤ s) = false := by simpa using h
    go_wp2
    go_ret
    exact ⟨by simp, rfl⟩

/-- The Hi of an entry that is made to fit. -/
def fitV (h l a s : Int) : Int := joinV a (if l % 2 = 0 then s else h)

theorem fitted_any (h l a s : Int) (h0 : 0 ≤ h) (h1 : h < 4294967296) (l0 : 0 ≤ l) (l1 : l < 4294967296) (a0 : 0 ≤ a) (a1 : a < 4294967296) (s0 : 0 ≤ s) (s1 : s < 4294967296) (w : World) :
    Calls Try.prog 18 #[.agg #[.int .u32 h, .int .u32 l], .int .u32 a, .int .u32 s] w fun e w' =>
      e = .returned (.agg #[.int .u32 (fitV h l a s), .int .u32 l]) ∧ Below w.heap.size w w' := by
  have e1 := and1 l l0 l1
  go_enter Try.func18, Try.ntmps18
  by_cases hl : l % 2 = 0
  · have ht : (l % 2 != 0) = false := by simp [hl]
    have hv : fitV h l a s = joinV a s := by simp [fitV, hl]
    go_wp2_with (go_at_call 17; refine (join_any a s a0 a1 s0 s1 _).mono ?_; rintro e w' ⟨rfl, rfl⟩)
    refine bodyPost_ret (v := .agg #[.int .u32 (joinV a s), .int .u32 l]) (by simp [results, Try.results18, go_sem]) rfl ⟨by rw [hv], ?_⟩
    exact ((Below.refl _ w).alloc (Nat.le_refl _) _).alloc (by simp) _
  · have ht : (l % 2 != 0) = true := by simp [hl]
    have hv : fitV h l a s = joinV a h := by simp [fitV, hl]
    go_wp2_with (go_at_call 17; refine (join_any a h a0 a1 h0 h1 _).mono ?_; rintro e w' ⟨rfl, rfl⟩)
    refine bodyPost_ret (v := .agg #[.int .u32 (joinV a h), .int .u32 l]) (by simp [results, Try.results18, go_sem]) rfl ⟨by rw [hv], ?_⟩
    exact ((Below.refl _ w).alloc (Nat.le_refl _) _).alloc (by simp) _

end Go.Proofs.Ytdiijmjdnnolgaa
