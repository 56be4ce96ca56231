/- The walk of the law: which words any lines are, or that one is none, is as the document says, and what is told is its owner's. -/
import Derived.Test.YtahbbhgoacbejaaGreatDoorAsmLinesR
set_option linter.unusedVariables false
set_option linter.unusedSimpArgs false
namespace Go.Proofs.YtahbbhgoacbejaaGreatDoor
open Go.RowKit Go.Shelf Go.Joins

theorem Asm.rows_less (s : List UInt8) : (Asm.rows s).length ≤ s.length := by
  have : ∀ n, ∀ s : List UInt8, s.length ≤ n → (Asm.rows s).length ≤ s.length := by
    intro n
    induction n with
    | zero =>
      intro s hs
      have : s = [] := List.length_eq_zero_iff.mp (by omega)
      rw [this, Asm.rows_nil]
      simp
    | succ n ih =>
      intro s hs
      by_cases h : s = []
      · rw [h, Asm.rows_nil]; simp
      · rw [Asm.rows_cons h]
        have hp : 0 < s.length := List.length_pos_iff.mpr h
        have h2 := ih (s.drop ((s.takeWhile (· != 10)).length + 1)) (by simp; omega)
        simp only [List.length_cons, List.length_drop] at h2 ⊢
        omega
  exact this s.length s (Nat.le_refl _)

/-- A row of n words in block B that may be written. -/
structure Open32 (w : World) (B n : Nat) : Prop where
  cell : ∀ j, j < n → ∃ u, w.cell? ⟨B, j, none⟩ = some (.int .u32 u)
  free : ∀ j, j < n → w.frozen? ⟨B, j, none⟩ = false

theorem Open32.set {w : World} {B n : Nat} (h : Open32 w B n) {k : Nat} (v : Int) : Open32 (w.setCell ⟨B, k, none⟩ (.int .u32 v)) B n := by
  refine ⟨fun j hj => ?_, fun j hj => by rw [World.frozen?_setCell]; exact h.free j hj⟩
  obtain ⟨u, hu⟩ := h.cell j hj
  by_cases e : j = k
  · subst e
    exact ⟨v, World.cell?_setCell_same w _ _ hu⟩
  · refine ⟨u, ?_⟩
    rw [World.cell?_setCell_other w _ _ _ (by intro c; injection c with _ c2; omega)]
    exact hu

theorem Open32.of {w : World} {base : Nat} {v : Value} {xs : List Int} (h : w.ownsRow base 36 1 v xs.length (xs.map (.int .u32 ·))) :
    (v = .slice none 0 0 ∧ xs = []) ∨ ∃ g cap, v = .slice (some ⟨g, 0, none⟩) xs.length cap ∧ base ≤ g ∧ Open32 w g xs.length := by
  rcases h with ⟨hl, ⟨rfl, h0⟩ | ⟨g, cap, cur, rfl, hb, hg, hn, hm, hc, ht⟩⟩
  · exact Or.inl ⟨rfl, List.length_eq_zero_iff.mp h0⟩
  · refine Or.inr ⟨g, cap, rfl, hb, fun j hj => ⟨xs[j], ?_⟩, fun j hj => ?_⟩
    · have e : (cur.toList.take (xs.length * 1))[j]? = some (.int .u32 xs[j]) := by rw [ht]; simp [hj]
      rw [List.getElem?_take_of_lt (by omega)] at e
      simp only [World.cell?, hg]
      simpa using e
    · simp [World.frozen?, hg]

set_option maxHeartbeats 4000000 in
set_option maxRecDepth 100000 in
theorem lines_walk (s : ByteArray) (zs : s.size ≤ 140737488351232) (w : World) (L : Lay5 w) :
    Calls Tryz.prog 5 #[.string s] w fun e w' => e = .returned (.bool true) ∧ Below w.heap.size w w' := by
  obtain ⟨m, hm, hm1, hm2⟩ : ∃ m : Nat, (min (s.size : Int) 2000 = (m : Int)) ∧ m ≤ s.size ∧ m ≤ 2000 := ⟨min s.size 2000, by omega, by omega, by omega⟩
  have c1 : (m : Int) ≤ (s.size : Int) := by omega
  go_enter Tryz.func5, Tryz.ntmps5
  go_wp2_with fail
  have hAs : (s.extract 0 m).size ≤ 2000 := by simp; omega
  generalize s.extract 0 m = A at *
  clear hm hm1 hm2 c1 zs
  refine (rlines_any A hAs _).mono ?_
  rintro e1 w1 ⟨⟨ws, f, vb, rfl, hx, rb⟩, h1⟩
  have L1 := L.on h1
  have hwl : ws.length ≤ 2000 := by
    rcases hx with ⟨h, -⟩ | ⟨-, rfl, -⟩
    · have h2 := Asm.rows_less A.data.toList
      have h3 := h.length
      have h4 : A.data.toList.length = A.size := rfl
      omega
    · simp
  have hq : (f != f) = false := by simp
  replace hx := hide hx
  replace rb := hide rb
  have h1' := hide h1
  have hz1 := h1.size
  clear L h1
  go_wp2_with fail
  go_loopw [5] (fun i wr => ∃ k : Nat, k ≤ 2 ∧ i = .int .i64 (k : Int) ∧ Hid (Below w1.heap.size w1 wr)) (fun i _ => 2 - (Lib.intOf i).toNat)
  case atStart => exact ⟨0, by omega, rfl, hide (Below.refl _ _)⟩
  case round =>
    obtain ⟨k, hk, rfl, hb⟩ := hrel
    by_cases hlt : k < 2
    · have hl : (k : Int) < 2 := by omega
      have Lr := L1.on hb.out
      go_wp2_with fail
      refine (lines_any A (by omega) _ Lr).mono ?_
      rintro e1 w3 ⟨⟨xs, e, va, rfl, hy, oa⟩, h3⟩
      obtain ⟨rfl, rfl⟩ := Asm.Lined.one hy hx.out
      have ra := RowAt.of oa
      have rb3 := (rb.out.on hb.out).on h3
      have b3 := onto hb.out h3
      have hS := fun W h1 h2 => same_any W va vb xs xs (by omega) (by omega) h1 h2
      rw [show decide (xs = xs) = true from decide_eq_true rfl] at hS
      have hopen := Open32.of oa
      have hzr := hb.out.size
      clear hy oa
      go_wp2_with fail
      refine (hS _ ra rb3).mono ?_
      rintro e1 w4 ⟨rfl, h4⟩
      have b4 := hide (onto b3 h4)
      have hopen4 : (va = .slice none 0 0 ∧ xs = []) ∨ ∃ g cap, va = .slice (some ⟨g, 0, none⟩) xs.length cap ∧ w1.heap.size ≤ g ∧ Open32 w4 g xs.length := by
        rcases hopen with h | ⟨g, cap, h, hg, ho⟩
        · exact Or.inl h
        · refine Or.inr ⟨g, cap, h, by omega, fun j hj => ?_, fun j hj => ?_⟩
          · obtain ⟨u, hu⟩ := ho.cell j hj
            exact ⟨u, (h4.cell (p := ⟨g, j, none⟩) (cell_in hu)).trans hu⟩
          · obtain ⟨u, hu⟩ := ho.cell j hj
            rw [h4.frozen (p := ⟨g, j, none⟩) (cell_in hu)]
            exact ho.free j hj
      clear hS ra rb3 b3 hopen h3 h4 hb Lr
      rcases hopen4 with ⟨rfl, rfl⟩ | ⟨g, cap, rfl, hg, ho⟩
      · go_wp2_with fail
        go_loopw [8] (fun i wr' => i = .int .i64 0 ∧ wr' = w4) (fun _ _ => 0)
        case atStart => exact ⟨rfl, rfl⟩
        case round =>
          obtain ⟨rfl, rfl⟩ := hrel
          go_wp2
          exact ⟨⟨k + 1, by omega, by simp, b4⟩, by simp [Lib.intOf]; omega⟩
      · obtain ⟨n, hn⟩ : ∃ n, xs.length = n := ⟨_, rfl⟩
        rw [hn] at hwl ho ⊢
        replace ho := hide ho
        go_wp2_with fail
        go_loopw [8] (fun i wr' => ∃ j : Nat, j ≤ n ∧ i = .int .i64 (j : Int) ∧ Hid (Open32 wr' g n) ∧ Hid (Below w1.heap.size w1 wr')) (fun i _ => n - (Lib.intOf i).toNat)
        case atStart => exact ⟨0, by omega, rfl, ho, b4⟩
        case round =>
          obtain ⟨j, hj, rfl, hoj, hbj⟩ := hrel
          by_cases hjn : j < n
          · have hjl : (j : Int) < (n : Int) := by omega
            obtain ⟨u, hc⟩ := hoj.out.cell j hjn
            have hf := hoj.out.free j hjn
            have o2 := hide (hoj.out.set (k := j) 0)
            have G2 := hide (hbj.out.setCell (p := ⟨g, j, none⟩) hg (.int .u32 0))
            clear hoj hbj ho
            go_wp2
            go_roundw
            case rel => exact ⟨j + 1, by omega, by go_num, o2, G2⟩
            case measure => simp [Lib.intOf]; omega
          · have hjl : ¬ (j : Int) < (n : Int) := by omega
            clear ho hoj
            go_wp2
            exact ⟨⟨k + 1, by omega, by simp, hbj⟩, by simp [Lib.intOf]; omega⟩
    · have hl : ¬ (k : Int) < 2 := by omega
      have Lr := L1.on hb.out
      go_wp2_with fail
      refine (facts5 _ Lr).mono ?_
      rintro e1 w5 ⟨rfl, h5⟩
      go_wp2_with fail
      go_ret
      exact ⟨rfl, onto (onto h1'.out hb.out) h5⟩

end Go.Proofs.YtahbbhgoacbejaaGreatDoor
