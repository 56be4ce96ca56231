/- Layer 14: what append makes is a slice of operations; the document's Same. -/
import Derived.Test.YtmegghgjllbamaaGreatDoorQIrTrans2
namespace Go.Proofs.YtmegghgjllbamaaGreatDoor.Ir
open Go.RowKit
set_option linter.unusedVariables false
set_option maxRecDepth 100000
set_option linter.unusedSimpArgs false

theorem flat_len (l : List Mi) : (flat l).length = l.length * 6 := by
  induction l with
  | nil => rfl
  | cons m l ih => simp only [flat, List.flatMap_cons, List.length_append, List.length_cons] at ih ⊢; rw [ih]; simp [cellsM]; omega

theorem flat_at (l : List Mi) (i : Nat) (m : Mi) (h : l[i]? = some m) (j : Nat) (hj : j < 6) : (flat l)[i * 6 + j]? = (cellsM m)[j]? := by
  induction l generalizing i with
  | nil => simp at h
  | cons x l ih =>
    show ((cellsM x).toList ++ flat l)[i * 6 + j]? = _
    have hx : (cellsM x).toList.length = 6 := rfl
    cases i with
    | zero =>
      obtain rfl : x = m := by simpa using h
      rw [Nat.zero_mul, Nat.zero_add, List.getElem?_append_left (by omega)]
      simp
    | succ i =>
      rw [List.getElem?_append_right (by omega), hx, show (i + 1) * 6 + j - 6 = i * 6 + j by omega]
      exact ih i (by simpa using h)

/-- A row that append made is a slice of operations. -/
theorem ops_of_own {w : World} {B : Nat} {v : Value} {l : List Mi} (h : w.ownsRow B 66 6 v l.length (flat l)) : IsOps w v l := by
  rcases h.2 with ⟨rfl, hn⟩ | ⟨g, cap, cur, rfl, hg, hh, hc, hcm, hs, ht⟩
  · exact Or.inl ⟨_, _, List.length_eq_zero_iff.1 hn, rfl⟩
  · refine Or.inr ⟨g, 0, cap, rfl, Nat.le_trans hc hcm, (Array.getElem?_eq_some_iff.1 hh).1, fun i m hi j hj => ?_⟩
    rw [cell_of_row w g _ cur _ _ hh, ← flat_at l i m hi j hj, ← ht, List.getElem?_take_of_lt (by have := (List.getElem?_eq_some_iff.1 hi).1; omega)]
    simp

set_option maxHeartbeats 4000000 in
theorem rsame_any {w : World} {a b : Value} {la lb : List Mi} (ha : IsOps w a la) (hb : IsOps w b lb) : Calls Tryz.prog 31 #[a, b] w fun e w' => e = .returned (.bool (decide (la = lb))) ∧ Below w.heap.size w w' := by
  obtain ⟨s1, s2, s3, s4, s5, s6, s7, s8, s9, s10⟩ := irSizes
  obtain ⟨ad, n, c, rfl, hn, hmx, hm⟩ := ha.open'
  obtain ⟨ad2, n2, c2, rfl, hn2, hmx2, hm2⟩ := hb.open'
  unfold maxLen at hmx
  have hne := neqM
  by_cases hl : n = n2
  · subst hl
    obtain ⟨A, hA⟩ : ∃ A, decide (la = lb) = A := ⟨_, rfl⟩
    rw [hA]
    have hl : Hid (la.length = lb.length) := hide (by omega)
    replace hn := hide hn
    replace hn2 := hide hn2
    replace hm := hide hm
    replace hm2 := hide hm2
    replace hA := hide hA
    clear ha hb
    go_enter Tryz.func31, Tryz.ntmps31
    go_wp2_with fail
    go_loopw [5] (fun i wr => ∃ k : Nat, k ≤ n ∧ i = .int .i64 (k : Int) ∧ Hid (∀ j, j < k → la[j]? = lb[j]?) ∧ Hid (Below w.heap.size w wr)) (fun i _ => n - (intOf i).toNat)
    case atStart => exact ⟨0, Nat.zero_le _, rfl, hide (fun j hj => absurd hj (Nat.not_lt_zero _)), hide (Below.refl _ _)⟩
    case round =>
      obtain ⟨k, hk, rfl, hE, hB⟩ := hrel
      by_cases hlt : k < n
      · have dk : decide ((k : Int) < (n : Int)) = true := by simp; omega
        obtain ⟨m, hm0⟩ : ∃ m, la[k]? = some m := ⟨la[k]'(by have := hn.out; omega), List.getElem?_eq_getElem _⟩
        obtain ⟨q, hq0⟩ : ∃ m, lb[k]? = some m := ⟨lb[k]'(by have := hn2.out; omega), List.getElem?_eq_getElem _⟩
        obtain ⟨g, o, rfl, hg, hM0⟩ := hm.out k m hm0
        obtain ⟨g2, o2, rfl, hg2, hQ0⟩ := hm2.out k q hq0
        have hld : (loadCellsFrom ⟨g, o + k * N6, none⟩ 0 N6 #[]).run Tryz.prog wr.drew = .ok (cellsM m) wr.drew := (hM0.on hg hB.out.drew).load
        have hld2 : (loadCellsFrom ⟨g2, o2 + k * N6, none⟩ 0 N6 #[]).run Tryz.prog wr.drew = .ok (cellsM q) wr.drew := (hQ0.on hg2 hB.out.drew).load
        have hB2 := hide hB.out.drew
        clear hM0 hQ0
        by_cases e : m = q
        · have e' : decide (m = q) = true := by simpa using e
          have hE2 : Hid (∀ j, j < k + 1 → la[j]? = lb[j]?) := hide (fun j hj => by
            by_cases h : j = k
            · rw [h, hm0, hq0, e]
            · exact hE.out j (by omega))
          clear e hE hm0 hq0
          go_wp2_with fail
          go_region
          go_wp2
          go_roundw
          case rel => exact ⟨k + 1, by omega, by go_num, hE2, hB2⟩
          case measure => simp [intOf]; omega
        · have e' : decide (m = q) = false := by simpa using e
          have hF : A = false := by
            rw [← hA.out]
            simp only [decide_eq_false_iff_not]
            intro h
            rw [h, hq0] at hm0
            exact e (Option.some.inj hm0).symm
          subst hF
          clear e hE hm0 hq0
          go_wp2_with fail
          go_region
          go_wp2
          go_ret
          exact ⟨rfl, hB2.out⟩
      · have dk : decide ((k : Int) < (n : Int)) = false := by simp; omega
        have hF : A = true := by
          rw [← hA.out]
          simp only [decide_eq_true_eq]
          apply List.ext_getElem?
          intro j
          by_cases hj : j < k
          · exact hE.out j hj
          · rw [List.getElem?_eq_none (by have := hn.out; omega), List.getElem?_eq_none (by have := hn2.out; omega)]
        subst hF
        go_wp2
        go_ret
        exact ⟨rfl, hB.out⟩
  · rw [show decide (la = lb) = false by
      simp only [decide_eq_false_iff_not]
      intro h
      rw [h] at hn
      omega]
    have e : ((n : Int) == (n2 : Int)) = false := by simp; omega
    have e2 : ((n : Int) != (n2 : Int)) = true := by simp; omega
    replace hn := hide hn
    replace hn2 := hide hn2
    clear ha hb hm hm2
    go_enter Tryz.func31, Tryz.ntmps31
    go_wp2
    go_ret
    exact ⟨rfl, Below.refl _ _⟩

end Go.Proofs.YtmegghgjllbamaaGreatDoor.Ir
