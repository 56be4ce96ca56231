/- Layer 18: the program's disk: a sector's piece of the row; why a call is refused; its image; a new one; bytes are opened. -/
import Derived.Test.YtgffhnggocbjhaaDkPb
namespace Go.Proofs.Ytgffhnggocbjhaa
open Go.RowKit
set_option linter.unusedVariables false
set_option maxRecDepth 100000
set_option linter.unusedSimpArgs false

theorem psector_any {w : World} {H : Nat → Prop} {db : Nat} {sv lv gv : Value} {d : Dk} (P : PS w H db sv lv gv d) (n : Nat) (hn : n < d.S.length) {g cap : Nat} (hsv : sv = .slice (some ⟨g, 0, none⟩) (64 * d.S.length) cap) :
    Calls Try.prog 84 #[.pointer (some ⟨db, 0, none⟩), .int .i64 (n : Int)] w fun e w' => e = .returned (.slice (some ⟨g, 64 * n, none⟩) 64 (cap - 64 * n)) ∧ w' = w := by
  have b0 := P.cells.1
  have s2 := P.g.s2
  obtain ⟨g', cap', hsv', -, -, -, hc, hm, -⟩ := P.open
  rw [hsv] at hsv'
  injection hsv' with e1 e2 e3
  subst e3
  obtain ⟨m, hmm⟩ : ∃ m, m = d.S.length := ⟨_, rfl⟩
  rw [hsv, ← hmm] at b0
  rw [← hmm] at s2 hn hc
  clear P hsv e1 e2 hmm
  rw [show 64 * n = n * 64 by omega]
  go_enter Try.func84, Try.ntmps84
  go_wp2
  go_ret
  exact ⟨rfl, rfl⟩

theorem prefusal_any {w : World} {H : Nat → Prop} {db : Nat} {sv lv gv : Value} {d : Dk} (P : PS w H db sv lv gv d) (n : Int) :
    Calls Try.prog 81 #[.pointer (some ⟨db, 0, none⟩), .int .i64 n] w fun e w' => e = .returned (.int .i64 (d.errAt n)) ∧ w' = w := by
  have b2 := P.cells.2.2.1
  have cs := hide (psectors_any P)
  obtain ⟨m, hmm⟩ : ∃ m, m = d.S.length := ⟨_, rfl⟩
  unfold Dk.errAt
  rw [← hmm] at cs ⊢
  clear P hmm
  cases hd : d.dead with
  | true =>
    rw [hd] at b2
    rw [if_pos rfl]
    clear cs hd
    go_enter Try.func81, Try.ntmps81
    go_wp2
    go_ret
    exact ⟨rfl, rfl⟩
  | false =>
    rw [hd] at b2
    rw [if_neg (by decide)]
    clear hd
    by_cases h0 : n < 0
    · rw [if_pos (.inl h0)]
      clear cs
      go_enter Try.func81, Try.ntmps81
      go_wp2
      go_ret
      exact ⟨rfl, rfl⟩
    · by_cases h1 : (m : Int) ≤ n
      · rw [if_pos (.inr h1)]
        go_enter Try.func81, Try.ntmps81
        go_wp2_with (go_at_call 87; refine cs.out.mono ?_; rintro e w' ⟨rfl, rfl⟩)
        go_ret
        exact ⟨rfl, rfl⟩
      · rw [if_neg (by omega)]
        go_enter Try.func81, Try.ntmps81
        go_wp2_with (go_at_call 87; refine cs.out.mono ?_; rintro e w' ⟨rfl, rfl⟩)
        go_ret
        exact ⟨rfl, rfl⟩

theorem pimage_any {w : World} {H : Nat → Prop} {db : Nat} {sv lv gv : Value} {d : Dk} (P : PS w H db sv lv gv d) :
    Calls Try.prog 24 #[.pointer (some ⟨db, 0, none⟩)] w fun e w' => e = .returned (.string (catT d.S)) ∧ w' = w := by
  have cv := conv_own P.s.1 (catT_size P.g.s64)
  have b0 := P.cells.1
  obtain ⟨g, cap, hsv, -⟩ := P.open
  obtain ⟨T, hT⟩ : ∃ T, T = catT d.S := ⟨_, rfl⟩
  rw [← hT] at cv ⊢
  subst hsv
  clear P hT
  go_enter Try.func24, Try.ntmps24
  go_wp2
  go_ret
  exact ⟨rfl, rfl⟩

theorem psteps_any {w : World} {H : Nat → Prop} {db : Nat} {sv lv gv : Value} {d : Dk} (P : PS w H db sv lv gv d) :
    Calls Try.prog 26 #[.pointer (some ⟨db, 0, none⟩)] w fun e w' => e = .returned (.int .i64 (d.m : Int)) ∧ w' = w := by
  have b3 := P.cells.2.2.2.1
  clear P
  go_enter Try.func26, Try.ntmps26
  go_wp2
  go_ret
  exact ⟨rfl, rfl⟩

theorem pnew_bad (n : Int) (h : n < 1 ∨ 4096 < n) (w : World) : Calls Try.prog 35 #[.int .i64 n] w fun e w' => e = .returned (.tuple #[.pointer none, .int .i64 180]) ∧ w' = w := by
  rcases h with h | h
  all_goals
    go_enter Try.func35, Try.ntmps35
    go_wp2
    go_ret2
    exact ⟨rfl, rfl⟩

theorem catT_T0 : ∀ n, catT (List.replicate n T0) = textOf (64 * n) (fun _ => 0)
  | 0 => rfl
  | n + 1 => by
    rw [List.replicate_succ, catT, catT_T0 n, T0, textOf_add, show 64 + 64 * n = 64 * (n + 1) by omega]

theorem made_text (n : Nat) : (madeCells #[Value.int .u8 0] n).toList = Go.Lib.strCells (textOf n fun _ => 0) := by
  apply List.ext_getElem?
  intro j
  unfold Go.Lib.strCells
  rw [List.getElem?_map, textOf_data, List.getElem?_map, Array.getElem?_toList]
  by_cases h : j < n
  · rw [made_flat h, List.getElem?_range h]
    rfl
  · rw [Array.getElem?_eq_none (by simp [madeCells]; omega), List.getElem?_eq_none (by simp; omega)]
    rfl

set_option maxHeartbeats 1000000 in
theorem pnew_any (n : Nat) (h1 : 1 ≤ n) (h2 : n ≤ 4096) (w : World) :
    Calls Try.prog 35 #[.int .i64 (n : Int)] w fun e w' => ∃ db cap, e = .returned (.tuple #[.pointer (some ⟨db, 0, none⟩), .int .i64 0]) ∧ PS w' (fun k => w.heap.size ≤ k) db (.slice (some ⟨w.heap.size, 0, none⟩) (64 * n) cap) (.slice none 0 0) .nilFunc (newD n) ∧ Below w.heap.size w w' := by
  have mk : ∀ w : World, (Instr.makeSlice 57 (.int .i64 ((n : Int) * 64)) (.int .i64 ((n : Int) * 64))).run Try.prog w = .ok (.slice (some ⟨w.heap.size, 0, none⟩) (64 * n) (64 * n)) (w.alloc (.cells (madeCells #[.int .u8 0] (64 * n)) 5)) := fun w => by
    have := make_row w (64 * n) (by omega)
    rwa [show ((64 * n : Nat) : Int) = (n : Int) * 64 by omega] at this
  have fin : ∀ w : World, PS ((w.alloc (.cells (madeCells #[.int .u8 0] (64 * n)) 5)).alloc (.cells #[.slice (some ⟨w.heap.size, 0, none⟩) (64 * n) (64 * n), .slice none 0 0, .bool false, .int .i64 0, .int .i64 0, .nilFunc] 92)) (fun k => w.heap.size ≤ k) (w.heap.size + 1) (.slice (some ⟨w.heap.size, 0, none⟩) (64 * n) (64 * n)) (.slice none 0 0) .nilFunc (newD n) := fun w => by
    have BX := Box.new (w.alloc (.cells (madeCells #[.int .u8 0] (64 * n)) 5)) #[.slice (some ⟨w.heap.size, 0, none⟩) (64 * n) (64 * n), .slice none 0 0, .bool false, .int .i64 0, .int .i64 0, .nilFunc] 92
    rw [World.size_alloc] at BX
    refine ⟨BX, ?_, ⟨World.ownsRow_nil _ _ _ _, fun k hk => by simp [Value.ownBlock] at hk⟩, by show w.heap.size ≤ w.heap.size + 1; omega, newD_good h1 h2, by simp [newD], by simp [newD], .inl ⟨rfl, rfl⟩⟩
    have e : catT (newD n).S = textOf (64 * n) (fun _ => 0) := catT_T0 n
    rw [e, show (newD n).S.length = n by simp [newD], ← made_text]
    have hsz : (madeCells #[Value.int .u8 0] (64 * n)).size = 64 * n := by simp [madeCells]
    have hg : ((w.alloc (.cells (madeCells #[.int .u8 0] (64 * n)) 5)).alloc (.cells #[.slice (some ⟨w.heap.size, 0, none⟩) (64 * n) (64 * n), .slice none 0 0, .bool false, .int .i64 0, .int .i64 0, .nilFunc] 92)).heap[w.heap.size]? = some (.cells (madeCells #[.int .u8 0] (64 * n)) 5 (0, 0)) :=
      heap_alloc2_old w _ _
    refine ⟨⟨by rw [Array.length_toList, hsz, Nat.mul_one], .inr ⟨w.heap.size, 64 * n, _, rfl, Nat.zero_le _, hg, Nat.le_refl _, by unfold maxLen; omega, by rw [hsz, Nat.mul_one], by rw [Nat.mul_one]; exact List.take_of_length_le (by rw [Array.length_toList, hsz]; omega)⟩⟩, fun k hk => ?_⟩
    simp [Value.ownBlock] at hk
    subst hk
    exact ⟨Nat.le_refl _, by omega⟩
  go_enter Try.func35, Try.ntmps35
  go_wp2
  go_ret2
  exact ⟨_, _, rfl, fin w, (grow _ _).alloc (by simp) _⟩

end Go.Proofs.Ytgffhnggocbjhaa
