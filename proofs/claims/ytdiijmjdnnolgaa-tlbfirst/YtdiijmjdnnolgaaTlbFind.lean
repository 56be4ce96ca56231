/- Layer 7: contracts of Find, of the program and of the document: the least slot that fits. -/
import Derived.Test.YtdiijmjdnnolgaaTlbWalks2
import Derived.Deep.RegionHeld3
namespace Go.Proofs.Ytdiijmjdnnolgaa
open Go.RowKit
set_option linter.unusedVariables false

/-- All words of a buffer are words. -/
def Wd (T : Nat → Int) : Prop := ∀ k, 0 ≤ T k ∧ T k < 4294967296

/-- Does slot i fit an address in a space? -/
def fit (T : Nat → Int) (a s : Int) (i : Nat) : Prop := T (i * 2) / 256 = a / 256 ∧ (T (i * 2 + 1) % 2 = 1 ∨ T (i * 2) % 256 = s % 256)

instance (T : Nat → Int) (a s : Int) (i : Nat) : Decidable (fit T a s i) := by unfold fit; infer_instance

theorem same_fit (T : Nat → Int) (a s : Int) (i : Nat) (hi : i < 8) : sameT (putT T i (fitV (T (i * 2)) (T (i * 2 + 1)) a s) (T (i * 2 + 1))) T = decide (fit T a s i) := by
  have key : sameT (putT T i (fitV (T (i * 2)) (T (i * 2 + 1)) a s) (T (i * 2 + 1))) T = true ↔ fit T a s i := by
    rw [sameT_iff]
    constructor
    · intro h
      have := h (i * 2) (by omega)
      simp only [putT, ↓reduceIte, fitV, joinV] at this
      unfold fit
      split at this <;> omega
    · intro h k hk
      unfold putT
      split
      · rename_i e; subst e
        unfold fit at h
        unfold fitV joinV
        split <;> omega
      · split
        · rename_i e; subst e; rfl
        · rfl
  cases hb : sameT (putT T i (fitV (T (i * 2)) (T (i * 2 + 1)) a s) (T (i * 2 + 1))) T
  · symm; simp; intro h; rw [key.2 h] at hb; cases hb
  · symm; simp; exact key.1 hb

/-- k is the least slot that fits, or -1. -/
def FindIs (T : Nat → Int) (a s k : Int) : Prop := (k = -1 ∧ ∀ i, i < 8 → ¬ fit T a s i) ∨ ∃ i : Nat, i < 8 ∧ k = i ∧ fit T a s i ∧ ∀ j, j < i → ¬ fit T a s j

theorem FindIs.one {T : Nat → Int} {a s k k' : Int} (h : FindIs T a s k) (h' : FindIs T a s k') : k = k' := by
  rcases h with ⟨e, n⟩ | ⟨i, hi, e, f, n⟩ <;> rcases h' with ⟨e', n'⟩ | ⟨i', hi', e', f', n'⟩
  · omega
  · exact absurd f' (n i' hi')
  · exact absurd f (n' i hi)
  · have : ¬ i < i' := fun c => n' i c f
    have : ¬ i' < i := fun c => n i' c f'
    omega

/-- Till slot k none fits. -/
def NoneTill (T : Nat → Int) (a s : Int) (k : Nat) : Prop := ∀ j, j < k → ¬ fit T a s j

theorem NoneTill.zero (T : Nat → Int) (a s : Int) : NoneTill T a s 0 := fun j h => by omega

theorem NoneTill.next {T : Nat → Int} {a s : Int} {k : Nat} (h : NoneTill T a s k) (n : ¬ fit T a s k) : NoneTill T a s (k + 1) := fun j hj => by
  rcases Nat.lt_succ_iff_lt_or_eq.mp hj with h1 | h1
  · exact h j h1
  · rw [h1]; exact n

/-- What stands behind a call within Find's round. -/
theorem find_on {n L R : Nat} {w x y : World} {c : Array Value} {u v : Value}
    (hS : (loadCellsFrom ⟨L, 0, none⟩ 0 N16 #[]).run Try.prog x = .ok c x ∧ x.cell? ⟨R, 0, none⟩ = some u ∧ x.cell? ⟨R, 1, none⟩ = some v ∧ (isRow x L = true ∧ rowAt x L = c ∧ c.size = N16 ∧ L < x.heap.size ∧ R < x.heap.size ∧ Below n w x)) (hn : n ≤ w.heap.size) (hb : Below x.heap.size x y) :
    (loadCellsFrom ⟨L, 0, none⟩ 0 N16 #[]).run Try.prog y = .ok c y ∧ y.cell? ⟨R, 0, none⟩ = some u ∧ y.cell? ⟨R, 1, none⟩ = some v ∧ (isRow y L = true ∧ rowAt y L = c ∧ c.size = N16 ∧ L < y.heap.size ∧ R < y.heap.size ∧ Below n w y) := by
  obtain ⟨h0, h1, h2, h3, h4, h5, h6, h7, h8⟩ := hS
  obtain ⟨hc, hf⟩ := bcell hb
  obtain ⟨hr, hi⟩ := brow hb
  have z := hb.size
  have z2 := h8.size
  have i' : isRow y L = true := by rw [hi _ h6, h3]
  have r' : rowAt y L = c := by rw [hr _ h6, h4]
  exact ⟨by have := loadTlb y L i' (by rw [r', h5]); rwa [r'] at this, by rw [hc _ _ h7, h1], by rw [hc _ _ h7, h2], i', r', h5, by omega, by omega, h8.trans (hb.mono (by omega))⟩

theorem find_start {n L : Nat} {w wr : World} {c : Array Value} (h3 : isRow wr L = true) (h4 : rowAt wr L = c) (h5 : c.size = N16) (h6 : L < wr.heap.size) (h8 : Below n w wr) (hn : n ≤ w.heap.size) (u v : Value) (t : TypeId) :
    (loadCellsFrom ⟨L, 0, none⟩ 0 N16 #[]).run Try.prog (wr.alloc (.cells #[u, v] t)).drew = .ok c (wr.alloc (.cells #[u, v] t)).drew ∧ (wr.alloc (.cells #[u, v] t)).drew.cell? ⟨wr.heap.size, 0, none⟩ = some u ∧ (wr.alloc (.cells #[u, v] t)).drew.cell? ⟨wr.heap.size, 1, none⟩ = some v ∧
      (isRow (wr.alloc (.cells #[u, v] t)).drew L = true ∧ rowAt (wr.alloc (.cells #[u, v] t)).drew L = c ∧ c.size = N16 ∧ L < (wr.alloc (.cells #[u, v] t)).drew.heap.size ∧ wr.heap.size < (wr.alloc (.cells #[u, v] t)).drew.heap.size ∧ Below n w (wr.alloc (.cells #[u, v] t)).drew) := by
  have i' : isRow (wr.alloc (.cells #[u, v] t)).drew L = true := by rw [isRow_drew, isRow_old _ _ _ h6, h3]
  have r' : rowAt (wr.alloc (.cells #[u, v] t)).drew L = c := by rw [rowAt_drew, rowAt_old _ _ _ h6, h4]
  have z := h8.size
  exact ⟨by have := loadTlb _ L i' (by rw [r', h5]); rwa [r'] at this, by simp [go_sem], by simp [go_sem], i', r', h5, by simp; omega, by simp, (h8.alloc (by omega) _).drew⟩

set_option maxHeartbeats 2000000 in
theorem find_any (T : Nat → Int) (a s : Int) (hT : Wd T) (a0 : 0 ≤ a) (a1 : a < 4294967296) (s0 : 0 ≤ s) (s1 : s < 4294967296) (w : World) :
    Calls Try.prog 13 #[.agg (cellsT T), .int .u32 a, .int .u32 s] w fun e w' =>
      ∃ k, FindIs T a s k ∧ e = .returned (.int .i64 k) ∧ Below w.heap.size w w' := by
  obtain ⟨t1, t2, t3, t4, t5, t6, t7, t8, t9⟩ := tlbRules
  go_enter Try.func13, Try.ntmps13
  go_wp2
  go_loopw [10] (fun i wr => ∃ k : Nat, k ≤ 8 ∧ i = .int .i64 k ∧ Hid (NoneTill T a s k) ∧ Hid (Below w.heap.size w wr) ∧ Hid (isRow wr w.heap.size = true ∧ rowAt wr w.heap.size = cellsT T ∧ w.heap.size < wr.heap.size)) (fun i _ => 8 - (intOf i).toNat)
  case atStart => exact ⟨0, by omega, rfl, hide (NoneTill.zero T a s), hide ((Below.refl _ w).alloc (Nat.le_refl _) _), hide ⟨isRow_new _ _ _, rowAt_new _ _ _, by simp⟩⟩
  case round =>
    obtain ⟨k, hk, rfl, hno, hB, hL⟩ := hrel
    by_cases hlt : k < 8
    · have h1 : (k : Int) < 8 := by omega
      have x1 := indexTlb T k hlt
      obtain ⟨f, hf⟩ : ∃ f, Hid (f = fitV (T (k * 2)) (T (k * 2 + 1)) a s) := ⟨_, hide rfl⟩
      have cf := fun w => fitted_any (T (k * 2)) (T (k * 2 + 1)) a s (hT _).1 (hT _).2 (hT _).1 (hT _).2 a0 a1 s0 s1 w
      have cw := fun w => with_any T k f (T (k * 2 + 1)) hlt w
      have ce := fun w => eqlTlb (putT T k f (T (k * 2 + 1))) T w
      rw [← hf.out] at cf
      rw [show sameT (putT T k f (T (k * 2 + 1))) T = decide (fit T a s k) by rw [hf.out]; exact same_fit T a s k hlt] at ce
      clear hf
      generalize putT T k f (T (k * 2 + 1)) = U at cw ce
      obtain ⟨hL1, hL2, hL3⟩ := hL.out
      go_wp2_with fail
      have hS := find_start hL1 hL2 (size_cellsT T) hL3 hB.out (Nat.le_refl _) (.int .u32 (T (k * 2))) (.int .u32 (T (k * 2 + 1))) 24
      generalize wr.alloc (.cells #[.int .u32 (T (k * 2)), .int .u32 (T (k * 2 + 1))] 24) = V at hS ⊢
      generalize wr.heap.size = R at hS ⊢
      clear hL hL1 hL2 hL3 hB t1 t2 t3 t4 t5 t6 t7 t8 t9
      have t1 := sizeTlb
      go_region_held3 (fun x => (loadCellsFrom ⟨w.heap.size, 0, none⟩ 0 N16 #[]).run Try.prog x = .ok (cellsT T) x ∧ x.cell? ⟨R, 0, none⟩ = some (.int .u32 (T (k * 2))) ∧ x.cell? ⟨R, 1, none⟩ = some (.int .u32 (T (k * 2 + 1))) ∧ (isRow x w.heap.size = true ∧ rowAt x w.heap.size = cellsT T ∧ (cellsT T).size = N16 ∧ w.heap.size < x.heap.size ∧ R < x.heap.size ∧ Below w.heap.size w x))
        (first | exact hS | assumption)
        (first
          | (go_at_call 18; refine (cf _).mono ?_; rintro e w' ⟨rfl, hn⟩; have hT := find_on (by assumption) (Nat.le_refl _) hn; clear hn)
          | (go_at_call 16; refine (cw _).mono ?_; rintro e w' ⟨rfl, hn⟩; have hT := find_on (by assumption) (Nat.le_refl _) hn; clear hn))
      have hB := hide hT.2.2.2.2.2.2.2.2
      have hL := hide (And.intro hT.2.2.2.1 (And.intro hT.2.2.2.2.1 hT.2.2.2.2.2.2.1))
      clear hT cf cw ce hS x1
      by_cases hq : fit T a s k
      · have hd : decide (fit T a s k) = true := by simpa using hq
        rw [hd]
        have hF := hide (Or.inr ⟨k, hlt, rfl, hq, hno.out⟩ : FindIs T a s k)
        clear hq hd hno
        go_wp2
        go_ret
        exact ⟨k, hF.out, rfl, hB.out⟩
      · have hd : decide (fit T a s k) = false := by simpa using hq
        rw [hd]
        have hn := hide (hno.out.next hq)
        clear hq hd hno
        go_wp2
        go_roundw
        case rel => exact ⟨k + 1, by omega, by go_num, hn, hB, hL⟩
        case measure => simp [intOf]; omega
    · have hx : k = 8 := by omega
      subst hx
      go_wp2
      go_ret
      exact ⟨-1, Or.inl ⟨rfl, hno.out⟩, rfl, hB.out⟩

/-- The document's Find. -/
theorem rfind_any (T : Nat → Int) (a s : Int) (hT : Wd T) (a0 : 0 ≤ a) (a1 : a < 4294967296) (s0 : 0 ≤ s) (s1 : s < 4294967296) (w : World) :
    Calls Try.prog 14 #[.agg (cellsT T), .int .u32 a, .int .u32 s] w fun e w' =>
      ∃ k, FindIs T a s k ∧ e = .returned (.int .i64 k) ∧ Below w.heap.size w w' := by
  obtain ⟨t1, t2, t3, t4, t5, t6, t7, t8, t9⟩ := tlbRules
  go_enter Try.func14, Try.ntmps14
  go_wp2
  go_loopw [7] (fun i wr => ∃ k : Nat, k ≤ 8 ∧ i = .int .i64 k ∧ Hid (NoneTill T a s k) ∧ Hid (Below w.heap.size w wr) ∧ Hid (∀ j, j < 16 → wr.cell? ⟨w.heap.size, j, none⟩ = some (.int .u32 (T j)))) (fun i _ => 8 - (intOf i).toNat)
  case atStart => exact ⟨0, by omega, rfl, hide (NoneTill.zero T a s), hide ((Below.refl _ w).alloc (Nat.le_refl _) _), hide fun j hj => by simp [get_cellsT T j hj]⟩
  case round =>
    obtain ⟨k, hk, rfl, hno, hB, hL⟩ := hrel
    by_cases hlt : k < 8
    · have h1 : (k : Int) < 8 := by omega
      have c0 := hL.out (k * 2) (by omega)
      have c1 := hL.out (k * 2 + 1) (by omega)
      have w0 := hT (k * 2)
      have w1 := hT (k * 2 + 1)
      obtain ⟨h, hh⟩ : ∃ h, Hid (h = T (k * 2)) := ⟨_, hide rfl⟩
      obtain ⟨l, hl⟩ : ∃ l, Hid (l = T (k * 2 + 1)) := ⟨_, hide rfl⟩
      rw [← hh.out] at c0 w0
      rw [← hl.out] at c1 w1
      go_wp2_with fail
      have hff : fit T a s k ↔ h / 256 = a / 256 ∧ (l % 2 = 1 ∨ h % 256 = s % 256) := by rw [hh.out, hl.out]; exact Iff.rfl
      clear hh hl
      replace hff := hide hff
      replace w0 := hide w0
      replace w1 := hide w1
      obtain ⟨h0, h2⟩ := w0.out
      obtain ⟨l0, l2⟩ := w1.out
      clear w0 w1
      go_region
      have hB := hide hB.out.drew
      have hL := hide (show ∀ j, j < 16 → wr.drew.cell? ⟨w.heap.size, j, none⟩ = some (.int .u32 (T j)) from hL.out)
      by_cases q1 : h / 256 = a / 256
      · have d1 : (h / 256 == a / 256) = true := by simp [q1]
        by_cases q2 : l % 2 = 1
        · have d2 : (l % 2 == 1) = true := by simp [q2]
          have hF := hide (Or.inr ⟨k, hlt, rfl, hff.out.2 ⟨q1, Or.inl q2⟩, hno.out⟩ : FindIs T a s k)
          clear q1 q2 hff hno
          go_wp2
          go_ret
          exact ⟨k, hF.out, rfl, hB.out⟩
        · have d2 : (l % 2 == 1) = false := by simp [q2]
          by_cases q3 : h % 256 = s % 256
          · have d3 : (h % 256 == s % 256) = true := by simp [q3]
            have hF := hide (Or.inr ⟨k, hlt, rfl, hff.out.2 ⟨q1, Or.inr q3⟩, hno.out⟩ : FindIs T a s k)
            clear q1 q2 q3 hff hno
            go_wp2
            go_ret
            exact ⟨k, hF.out, rfl, hB.out⟩
          · have d3 : (h % 256 == s % 256) = false := by simp [q3]
            have hn := hide (hno.out.next fun c => by have := hff.out.1 c; omega)
            clear q1 q2 q3 hff hno
            go_wp2
            go_roundw
            case rel => exact ⟨k + 1, by omega, by go_num, hn, hB, hL⟩
            case measure => simp [intOf]; omega
      · have d1 : (h / 256 == a / 256) = false := by simp [q1]
        have hn := hide (hno.out.next fun c => by have := hff.out.1 c; omega)
        clear q1 hff hno
        go_wp2
        go_roundw
        case rel => exact ⟨k + 1, by omega, by go_num, hn, hB, hL⟩
        case measure => simp [intOf]; omega
    · have hx : k = 8 := by omega
      subst hx
      go_wp2
      go_ret
      exact ⟨-1, Or.inl ⟨rfl, hno.out⟩, rfl, hB.out⟩

end Go.Proofs.Ytdiijmjdnnolgaa
