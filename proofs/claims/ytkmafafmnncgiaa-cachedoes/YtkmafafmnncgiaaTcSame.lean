/- Layer 16: the statements' tests: are words, operations, blocks the same? -/
import Derived.Test.YtkmafafmnncgiaaTcPlain
import Derived.Deep.RegionHeld3
namespace Go.Proofs.Ytkmafafmnncgiaa
open Go.RowKit
set_option linter.unusedVariables false
set_option linter.unusedSimpArgs false

theorem Row.len {w : World} {F : Nat → Prop} {t : TypeId} {v : Value} {n : Nat} {xs : List Value} {size : Nat} (h : Row w F t size v n xs) : xs.length = n * size := h.1.1

/-- A row, in one way for nil and for others. -/
theorem Row.open' {w : World} {F : Nat → Prop} {t : TypeId} {v : Value} {n : Nat} {xs : List Value} {size : Nat} (h : Row w F t size v n xs) :
    ∃ ad c, v = .slice ad n c ∧ n ≤ c ∧ n ≤ maxLen ∧ ∀ (j : Nat) u, xs[j]? = some u → ∃ g, ad = some ⟨g, 0, none⟩ ∧ g < w.heap.size ∧ w.cell? ⟨g, j, none⟩ = some u := by
  rcases h.1.2 with ⟨rfl, rfl⟩ | ⟨g, cap, cur, rfl, -, hg, hc, hm, -⟩
  · refine ⟨none, 0, rfl, Nat.le_refl _, Nat.zero_le _, fun j u hj => ?_⟩
    have := h.1.1
    rw [Nat.zero_mul] at this
    rw [List.length_eq_zero_iff.1 this] at hj
    simp at hj
  · refine ⟨_, cap, rfl, hc, by omega, fun j u hj => ⟨g, rfl, (Array.getElem?_eq_some_iff.1 hg).1, ?_⟩⟩
    have := h.1.cells (g := g) rfl j u hj
    rwa [Addr.add_lit, Nat.zero_add] at this

theorem row_n {w : World} {F : Nat → Prop} {v : Value} {n : Nat} {l : List Int} (h : Row w F 32 1 v n (ints l)) : n = l.length := by have := h.1.1; rw [ints_len] at this; omega
theorem row_m {w : World} {F : Nat → Prop} {v : Value} {n : Nat} {l : List Mi} (h : Row w F 42 6 v n (flat l)) : n = l.length := by have := h.1.1; rw [flat_len] at this; omega

set_option maxHeartbeats 4000000 in
theorem wsame_any {w : World} {F G : Nat → Prop} {a b : Value} {n m : Nat} {la lb : List Int} (ha : Row w F 32 1 a n (ints la)) (hb : Row w G 32 1 b m (ints lb)) :
    Calls Try.prog 18 #[a, b] w fun e w' => e = .returned (.bool (decide (la = lb))) ∧ Below w.heap.size w w' := by
  have hn := row_n ha
  have hm := row_n hb
  obtain ⟨ad, c, rfl, hc, hmx, hx⟩ := ha.open'
  obtain ⟨bd, d, rfl, hd, hmx2, hy⟩ := hb.open'
  unfold maxLen at hmx
  by_cases hl : n = m
  · subst hl
    obtain ⟨A, hA⟩ : ∃ A, decide (la = lb) = A := ⟨_, rfl⟩
    rw [hA]
    replace hn := hide hn
    replace hm := hide hm
    replace hx := hide hx
    replace hy := hide hy
    replace hA := hide hA
    clear ha hb
    go_enter Try.func18, Try.ntmps18
    go_wp2_with fail
    go_loopw [5] (fun i wr => ∃ k : Nat, k ≤ n ∧ i = .int .i64 (k : Int) ∧ Hid (∀ j, j < k → la[j]? = lb[j]?) ∧ Hid (Below w.heap.size w wr)) (fun i _ => n - (intOf i).toNat)
    case atStart => exact ⟨0, Nat.zero_le _, rfl, hide (fun j hj => absurd hj (Nat.not_lt_zero _)), hide (Below.refl _ _)⟩
    case round =>
      obtain ⟨k, hk, rfl, hE, hB⟩ := hrel
      by_cases hlt : k < n
      · have dk : decide ((k : Int) < (n : Int)) = true := by simp; omega
        obtain ⟨p, hp0⟩ : ∃ p, la[k]? = some p := ⟨la[k]'(by have := hn.out; omega), List.getElem?_eq_getElem _⟩
        obtain ⟨q, hq0⟩ : ∃ p, lb[k]? = some p := ⟨lb[k]'(by have := hm.out; omega), List.getElem?_eq_getElem _⟩
        obtain ⟨g, rfl, hg, hp1⟩ := hx.out k (.int .u32 p) (by simp [ints, hp0])
        obtain ⟨g2, rfl, hg2, hq1⟩ := hy.out k (.int .u32 q) (by simp [ints, hq0])
        have e1 : wr.drew.cell? ⟨g, k, none⟩ = some (.int .u32 p) := (hB.out.cell (p := ⟨g, k, none⟩) hg).trans hp1
        have e2 : wr.drew.cell? ⟨g2, k, none⟩ = some (.int .u32 q) := (hB.out.cell (p := ⟨g2, k, none⟩) hg2).trans hq1
        have e3 : wr.cell? ⟨g, k, none⟩ = some (.int .u32 p) := e1
        have e4 : wr.cell? ⟨g2, k, none⟩ = some (.int .u32 q) := e2
        have hB2 := hide hB.out.drew
        clear hp1 hq1
        by_cases e : p = q
        · have e' : (p != q) = false := by simpa using e
          have hE2 : Hid (∀ j, j < k + 1 → la[j]? = lb[j]?) := hide (fun j hj => by
            by_cases h : j = k
            · rw [h, hp0, hq0, e]
            · exact hE.out j (by omega))
          clear e hE hp0 hq0
          go_wp2_with fail
          go_region
          go_wp2
          go_roundw
          case rel => exact ⟨k + 1, by omega, by go_num, hE2, hB2⟩
          case measure => simp [intOf]; omega
        · have e' : (p != q) = true := by simpa using e
          have hF : A = false := by
            rw [← hA.out]
            simp only [decide_eq_false_iff_not]
            intro h
            rw [h, hq0] at hp0
            exact e (Option.some.inj hp0).symm
          subst hF
          clear e hE hp0 hq0
          go_wp2_with fail
          go_region
          go_wp2
          go_ret
          exact ⟨rfl, hB2.out⟩
      · have dk : decide ((k : Int) < (n : Int)) = false := by simp; omega
        have hF : A = true := by
          rw [← hA.out]
          simp only [decide_eq_true_eq]
          apply List.ext_getElem?
          intro j
          by_cases hj : j < k
          · exact hE.out j hj
          · rw [List.getElem?_eq_none (by have := hn.out; omega), List.getElem?_eq_none (by have := hm.out; omega)]
        subst hF
        go_wp2
        go_ret
        exact ⟨rfl, hB.out⟩
  · rw [show decide (la = lb) = false by
      simp only [decide_eq_false_iff_not]
      intro h
      rw [h] at hn
      omega]
    have e : ((n : Int) == (m : Int)) = false := by simp; omega
    have e2 : ((n : Int) != (m : Int)) = true := by simp; omega
    replace hn := hide hn
    replace hm := hide hm
    clear ha hb hx hy
    go_enter Try.func18, Try.ntmps18
    go_wp2
    go_ret
    exact ⟨rfl, Below.refl _ _⟩

theorem sizeM (w : World) : (sizeOf 42).run Try.prog w = .ok N6 w := Try.sizeOf42 w
theorem eqM (r q : Mi) (w : World) : (Op.equalIn 10000 42 (.agg (cellsM r)) (.agg (cellsM q))).run Try.prog w = .ok (decide (r = q)) w := by
  have hu : Try.prog.underlying 42 = some (.struct (Try.prog.fieldsOf 42)) := by kernel_rfl
  have hp : Try.prog.stoodInHeld 42 = false := by kernel_rfl
  rw [run_equalIn_agg w 9999 42 _ _ hu hp]
  obtain ⟨r0, r1, r2, r3, r4, r5⟩ := r
  obtain ⟨q0, q1, q2, q3, q4, q5⟩ := q
  simp only [cellsM, Mi.mk.injEq]
  simp [go_sem]
  repeat' split
  all_goals simp_all

theorem neqM (r q : Mi) (w : World) : (binOp .neq 42 (.agg (cellsM r)) (.agg (cellsM q))).run Try.prog w = .ok (.bool (!decide (r = q))) w := by
  rw [run_neq_struct, eqM]; rfl

/-- An operation of a row, loaded. -/
theorem load_op {w y : World} {F : Nat → Prop} {v : Value} {n : Nat} {l : List Mi} (h : Row w F 42 6 v n (flat l)) {k : Nat} {m : Mi} (hk : l[k]? = some m) :
    ∃ g c, v = .slice (some ⟨g, 0, none⟩) n c ∧ n ≤ c ∧ g < w.heap.size ∧ ∀ y, Below w.heap.size w y → (loadCellsFrom ⟨g, k * N6, none⟩ 0 N6 #[]).run Try.prog y = .ok (cellsM m) y := by
  obtain ⟨ad, c, rfl, hc, -, hx⟩ := h.open'
  have h6 : ∀ j, j < 6 → (flat l)[k * 6 + j]? = (cellsM m)[j]? := fun j hj => flat_at l k m hk j hj
  obtain ⟨g, rfl, hg, -⟩ := hx (k * 6 + 0) (.int .i64 m.k) (by rw [h6 0 (by decide)]; rfl)
  refine ⟨g, c, rfl, hc, hg, fun y hy => ?_⟩
  have := run_loadCells_list (P := Try.prog) y ⟨g, k * 6, none⟩ (cellsM m).toList (fun j u hj => by
    have hj6 : j < 6 := (List.getElem?_eq_some_iff.1 hj).1
    have hj' : (flat l)[k * 6 + j]? = some u := by rw [h6 j hj6, ← Array.getElem?_toList]; exact hj
    obtain ⟨g', e, -, hcell⟩ := hx _ _ hj'
    injection e with e
    injection e with e
    subst e
    rw [Addr.add_lit]
    exact (hy.cell (p := ⟨g, k * 6 + j, none⟩) hg).trans hcell)
  exact this

set_option maxHeartbeats 4000000 in
theorem msame_any {w : World} {F G : Nat → Prop} {a b : Value} {n m : Nat} {la lb : List Mi} (ha : Row w F 42 6 a n (flat la)) (hb : Row w G 42 6 b m (flat lb)) :
    Calls Try.prog 24 #[a, b] w fun e w' => e = .returned (.bool (decide (la = lb))) ∧ Below w.heap.size w w' := by
  have s1 := sizeM
  have s9 : ¬ N6 = 0 := by decide
  have hn := row_m ha
  have hm := row_m hb
  obtain ⟨ad, c, rfl, hc, hmx, -⟩ := ha.open'
  obtain ⟨bd, d, rfl, hd, hmx2, -⟩ := hb.open'
  unfold maxLen at hmx
  have hne := neqM
  have ha0 := hide ha
  have hb0 := hide hb
  by_cases hl : n = m
  · subst hl
    obtain ⟨A, hA⟩ : ∃ A, decide (la = lb) = A := ⟨_, rfl⟩
    rw [hA]
    replace hn := hide hn
    replace hm := hide hm
    replace hA := hide hA
    clear ha hb
    go_enter Try.func24, Try.ntmps24
    go_wp2_with fail
    go_loopw [5] (fun i wr => ∃ k : Nat, k ≤ n ∧ i = .int .i64 (k : Int) ∧ Hid (∀ j, j < k → la[j]? = lb[j]?) ∧ Hid (Below w.heap.size w wr)) (fun i _ => n - (intOf i).toNat)
    case atStart => exact ⟨0, Nat.zero_le _, rfl, hide (fun j hj => absurd hj (Nat.not_lt_zero _)), hide (Below.refl _ _)⟩
    case round =>
      obtain ⟨k, hk, rfl, hE, hB⟩ := hrel
      by_cases hlt : k < n
      · have dk : decide ((k : Int) < (n : Int)) = true := by simp; omega
        obtain ⟨p, hp0⟩ : ∃ p, la[k]? = some p := ⟨la[k]'(by have := hn.out; omega), List.getElem?_eq_getElem _⟩
        obtain ⟨q, hq0⟩ : ∃ p, lb[k]? = some p := ⟨lb[k]'(by have := hm.out; omega), List.getElem?_eq_getElem _⟩
        obtain ⟨g, c1, ea, -, -, hld⟩ := load_op (y := wr) ha0.out hp0
        obtain ⟨g2, c2, eb, -, -, hld2⟩ := load_op (y := wr) hb0.out hq0
        injection ea with ea1 ea2 ea3
        injection eb with eb1 eb2 eb3
        subst ea1 eb1
        have l1 := hld wr.drew hB.out.drew
        have l2 := hld2 wr.drew hB.out.drew
        have hB2 := hide hB.out.drew
        clear hld hld2 ea2 ea3 eb2 eb3
        by_cases e : p = q
        · have e' : decide (p = q) = true := by simpa using e
          have hE2 : Hid (∀ j, j < k + 1 → la[j]? = lb[j]?) := hide (fun j hj => by
            by_cases h : j = k
            · rw [h, hp0, hq0, e]
            · exact hE.out j (by omega))
          clear e hE hp0 hq0
          go_wp2_with fail
          go_region
          go_wp2
          go_roundw
          case rel => exact ⟨k + 1, by omega, by go_num, hE2, hB2⟩
          case measure => simp [intOf]; omega
        · have e' : decide (p = q) = false := by simpa using e
          have hF : A = false := by
            rw [← hA.out]
            simp only [decide_eq_false_iff_not]
            intro h
            rw [h, hq0] at hp0
            exact e (Option.some.inj hp0).symm
          subst hF
          clear e hE hp0 hq0
          go_wp2_with fail
          go_region
          go_wp2
          go_ret
          exact ⟨rfl, hB2.out⟩
      · have dk : decide ((k : Int) < (n : Int)) = false := by simp; omega
        have hF : A = true := by
          rw [← hA.out]
          simp only [decide_eq_true_eq]
          apply List.ext_getElem?
          intro j
          by_cases hj : j < k
          · exact hE.out j hj
          · rw [List.getElem?_eq_none (by have := hn.out; omega), List.getElem?_eq_none (by have := hm.out; omega)]
        subst hF
        go_wp2
        go_ret
        exact ⟨rfl, hB.out⟩
  · rw [show decide (la = lb) = false by
      simp only [decide_eq_false_iff_not]
      intro h
      rw [h] at hn
      omega]
    have e : ((n : Int) == (m : Int)) = false := by simp; omega
    have e2 : ((n : Int) != (m : Int)) = true := by simp; omega
    replace hn := hide hn
    replace hm := hide hm
    clear ha hb ha0 hb0
    go_enter Try.func24, Try.ntmps24
    go_wp2
    go_ret
    exact ⟨rfl, Below.refl _ _⟩

end Go.Proofs.Ytkmafafmnncgiaa
