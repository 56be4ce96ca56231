/- Print and Parse: an instruction's text, and the instruction of a text. -/
import Derived.Test.YtahbbhgoacbejaaGreatDoorAsmRead
set_option linter.unusedVariables false
set_option linter.unusedSimpArgs false
namespace Go.Proofs.YtahbbhgoacbejaaGreatDoor
open Go.RowKit Go.Shelf Go.Joins

theorem print_raw {o s t d a i v e : Int} {x : ByteArray} {q : Bool} (hq : (e != 0) = q) (hE : ∀ w, Tabs w →
    Calls Tryz.prog 14 #[.agg #[.int .i64 o, .int .i64 s, .int .i64 t, .int .i64 d, .int .i64 a, .int .i64 i]] w fun e' w' => e' = .returned (.tuple #[.int .u32 v, .int .i64 e]) ∧ Below w.heap.size w w')
    (hT : q = false → ∀ w, Lay5 w → Calls Tryz.prog 15 #[.agg #[.int .i64 o, .int .i64 s, .int .i64 t, .int .i64 d, .int .i64 a, .int .i64 i]] w fun e' w' => e' = .returned (.string x) ∧ Below w.heap.size w w') (w : World) (L : Lay5 w) :
    Calls Tryz.prog 6 #[.agg #[.int .i64 o, .int .i64 s, .int .i64 t, .int .i64 d, .int .i64 a, .int .i64 i]] w fun e' w' => e' = .returned (if q then .tuple #[.string ⟨#[]⟩, .int .i64 50] else .tuple #[.string x, .int .i64 0]) ∧ Below w.heap.size w w' := by
  go_enter Tryz.func6, Tryz.ntmps6
  go_wp2_with fail
  have g0 := grow w (.cells #[.int .i64 o, .int .i64 s, .int .i64 t, .int .i64 d, .int .i64 a, .int .i64 i] 23)
  have c0 := cell6 w 23 (.int .i64 o) (.int .i64 s) (.int .i64 t) (.int .i64 d) (.int .i64 a) (.int .i64 i)
  generalize (w.alloc (.cells #[.int .i64 o, .int .i64 s, .int .i64 t, .int .i64 d, .int .i64 a, .int .i64 i] 23)) = w0 at *
  have L0 := L.on g0
  refine (hE _ L0.tabs).mono ?_
  rintro e1 w1 ⟨rfl, h1⟩
  have c1 := c0.on h1
  have b1 := onto g0 h1
  have L1 := L0.on h1
  obtain ⟨k0, k1, k2, k3, k4, k5⟩ := c1
  clear hE c0 h1
  cases q with
  | true =>
    go_wp2_with fail
    go_ret2
    exact ⟨rfl, b1⟩
  | false =>
    replace hT := hT rfl
    go_wp2_with fail
    refine (hT _ L1).mono ?_
    rintro e2 w2 ⟨rfl, h2⟩
    go_wp2_with fail
    go_ret2
    exact ⟨rfl, onto b1 h2⟩

/-- What Print tells. -/
theorem print_any (o s t d a i : Int) : ∃ (x : List UInt8) (e : Int), Asm.Said o s t d a i x e ∧ ∀ w, Lay5 w →
    Calls Tryz.prog 6 #[.agg #[.int .i64 o, .int .i64 s, .int .i64 t, .int .i64 d, .int .i64 a, .int .i64 i]] w fun e' w' => e' = .returned (.tuple #[.string ⟨x.toArray⟩, .int .i64 e]) ∧ Below w.heap.size w w' := by
  obtain ⟨v, e, hw, hE⟩ := encode_any o s t d a i
  rcases hw with ⟨op, ho, rfl, hg, rfl, rfl⟩ | ⟨hn, rfl, rfl⟩
  · refine ⟨_, _, Or.inl ⟨op, ho, rfl, hg, rfl, rfl⟩, fun w L => ?_⟩
    exact print_raw (q := false) rfl hE (fun _ w L => text_any op ho s t d a i (Asm.full_good ho hg).2 w L) w L
  · refine ⟨_, _, Or.inr ⟨hn, rfl, rfl⟩, fun w L => ?_⟩
    exact print_raw (q := true) (x := ⟨#[]⟩) rfl hE (fun h => by cases h) w L

theorem put6 {W : World} {R : Nat} {T : TypeId} {x0 x1 x2 x3 x4 x5 : Value} (h0 : W.heap[R]? = some (.cells #[x0, x1, x2, x3, x4, x5] T (0, 0))) (v0 v1 v2 v3 v4 v5 : Value) :
    (((((((W.setCell ⟨R, 0, none⟩ v0).setCell ⟨R, 1, none⟩ v1).setCell ⟨R, 2, none⟩ v2).setCell ⟨R, 3, none⟩ v3).setCell ⟨R, 4, none⟩ v4).setCell ⟨R, 5, none⟩ v5).heap[R]? = some (.cells #[v0, v1, v2, v3, v4, v5] T (0, 0))) ∧
    Below R W ((((((W.setCell ⟨R, 0, none⟩ v0).setCell ⟨R, 1, none⟩ v1).setCell ⟨R, 2, none⟩ v2).setCell ⟨R, 3, none⟩ v3).setCell ⟨R, 4, none⟩ v4).setCell ⟨R, 5, none⟩ v5) := by
  refine ⟨?_, ?_⟩
  · exact heap_set (j := 5) (heap_set (j := 4) (heap_set (j := 3) (heap_set (j := 2) (heap_set (j := 1) (heap_set (j := 0) h0 v0) v1) v2) v3) v4) v5
  · exact ((((((Below.refl R W).setCell (p := ⟨R, 0, none⟩) (Nat.le_refl _) _).setCell (p := ⟨R, 1, none⟩) (Nat.le_refl _) _).setCell (p := ⟨R, 2, none⟩) (Nat.le_refl _) _).setCell (p := ⟨R, 3, none⟩) (Nat.le_refl _) _).setCell (p := ⟨R, 4, none⟩) (Nat.le_refl _) _).setCell (p := ⟨R, 5, none⟩) (Nat.le_refl _) _

set_option maxHeartbeats 2000000 in
theorem parse_no (s : ByteArray) (hr : ∀ w, Lay5 w → Calls Tryz.prog 19 #[.string s] w fun e w' => e = .returned (.tuple #[.agg #[.int .i64 0, .int .i64 0, .int .i64 0, .int .i64 0, .int .i64 0, .int .i64 0], .bool false]) ∧ Below w.heap.size w w') (w : World) (L : Lay5 w) :
    Calls Tryz.prog 9 #[.string s] w fun e w' => e = .returned (.tuple #[.agg #[.int .i64 0, .int .i64 0, .int .i64 0, .int .i64 0, .int .i64 0, .int .i64 0], .int .i64 50]) ∧ Below w.heap.size w w' := by
  go_enter Tryz.func9, Tryz.ntmps9
  go_wp2_with fail
  have g0 := grow w (.cells #[.int .i64 0, .int .i64 0, .int .i64 0, .int .i64 0, .int .i64 0, .int .i64 0] 23)
  have hR : (w.alloc (.cells #[.int .i64 0, .int .i64 0, .int .i64 0, .int .i64 0, .int .i64 0, .int .i64 0] 23)).heap[w.heap.size]? = _ := World.alloc_heap_new w _
  generalize (w.alloc (.cells #[.int .i64 0, .int .i64 0, .int .i64 0, .int .i64 0, .int .i64 0, .int .i64 0] 23)) = w0 at *
  refine (hr _ (L.on g0)).mono ?_
  rintro e w1 ⟨rfl, h1⟩
  have g2 := grow w1 (.cells #[.int .i64 0, .int .i64 0, .int .i64 0, .int .i64 0, .int .i64 0, .int .i64 0] 23)
  have hR1 := block_kept (block_kept hR (grown_of h1) (fun r e => by cases e)) (grown_of g2) (fun r e => by cases e)
  have b2 := onto (onto g0 h1) g2
  obtain ⟨⟨z0, z1, z2, z3, z4, z5⟩, zf⟩ := six_of hR1
  obtain ⟨p0, pb⟩ := put6 hR1 (.int .i64 0) (.int .i64 0) (.int .i64 0) (.int .i64 0) (.int .i64 0) (.int .i64 0)
  obtain ⟨⟨q0, q1, q2, q3, q4, q5⟩, -⟩ := six_of p0
  clear hR h1 g0 g2
  go_wp2_with fail
  refine bodyPost_ret (v := .tuple #[.agg #[.int .i64 0, .int .i64 0, .int .i64 0, .int .i64 0, .int .i64 0, .int .i64 0], .int .i64 50]) (by simp [results, Tryz.results9, go_sem, q0, q1, q2, q3, q4, q5]) rfl ⟨rfl, b2.trans pb⟩

set_option maxHeartbeats 2000000 in
theorem parse_yes (s x : ByteArray) (o a0 a1 a2 a3 a4 e : Int) (q : Bool) (hq : (e = 0 ∧ (x.toList == s.toList) = true ∧ q = true) ∨ (e = 0 ∧ (x.toList == s.toList) = false ∧ q = false) ∨ (e = 50 ∧ q = false))
    (hr : ∀ w, Lay5 w → Calls Tryz.prog 19 #[.string s] w fun e w' => e = .returned (.tuple #[.agg #[.int .i64 o, .int .i64 a0, .int .i64 a1, .int .i64 a2, .int .i64 a3, .int .i64 a4], .bool true]) ∧ Below w.heap.size w w')
    (hp : ∀ w, Lay5 w → Calls Tryz.prog 6 #[.agg #[.int .i64 o, .int .i64 a0, .int .i64 a1, .int .i64 a2, .int .i64 a3, .int .i64 a4]] w fun e' w' => e' = .returned (.tuple #[.string x, .int .i64 e]) ∧ Below w.heap.size w w') (w : World) (L : Lay5 w) :
    Calls Tryz.prog 9 #[.string s] w fun e w' => e = .returned (if q then .tuple #[.agg #[.int .i64 o, .int .i64 a0, .int .i64 a1, .int .i64 a2, .int .i64 a3, .int .i64 a4], .int .i64 0] else .tuple #[.agg #[.int .i64 0, .int .i64 0, .int .i64 0, .int .i64 0, .int .i64 0, .int .i64 0], .int .i64 50]) ∧ Below w.heap.size w w' := by
  go_enter Tryz.func9, Tryz.ntmps9
  go_wp2_with fail
  have g0 := grow w (.cells #[.int .i64 0, .int .i64 0, .int .i64 0, .int .i64 0, .int .i64 0, .int .i64 0] 23)
  have hR : (w.alloc (.cells #[.int .i64 0, .int .i64 0, .int .i64 0, .int .i64 0, .int .i64 0, .int .i64 0] 23)).heap[w.heap.size]? = _ := World.alloc_heap_new w _
  generalize (w.alloc (.cells #[.int .i64 0, .int .i64 0, .int .i64 0, .int .i64 0, .int .i64 0, .int .i64 0] 23)) = w0 at *
  have L0 := L.on g0
  refine (hr _ L0).mono ?_
  rintro e1 w1 ⟨rfl, h1⟩
  have g2 := grow w1 (.cells #[.int .i64 o, .int .i64 a0, .int .i64 a1, .int .i64 a2, .int .i64 a3, .int .i64 a4] 23)
  have hR1 := block_kept (block_kept hR (grown_of h1) (fun r e => by cases e)) (grown_of g2) (fun r e => by cases e)
  have hB : (w1.alloc (.cells #[.int .i64 o, .int .i64 a0, .int .i64 a1, .int .i64 a2, .int .i64 a3, .int .i64 a4] 23)).heap[w1.heap.size]? = _ := World.alloc_heap_new w1 _
  have b2 := onto (onto g0 h1) g2
  have L2 := (L0.on h1).on g2
  clear hR h1 g0 g2 L0 hr
  go_wp2_with fail
  generalize (w1.alloc (.cells #[.int .i64 o, .int .i64 a0, .int .i64 a1, .int .i64 a2, .int .i64 a3, .int .i64 a4] 23)) = w2 at *
  refine (hp _ L2).mono ?_
  rintro e2 w3 ⟨rfl, h3⟩
  replace hR1 := block_kept hR1 (grown_of h3) (fun r e => by cases e)
  replace hB := block_kept hB (grown_of h3) (fun r e => by cases e)
  replace b2 := onto b2 h3
  obtain ⟨⟨z0, z1, z2, z3, z4, z5⟩, zf⟩ := six_of hR1
  obtain ⟨⟨k0, k1, k2, k3, k4, k5⟩, -⟩ := six_of hB
  generalize w1.heap.size = B at *
  clear h3 hp L2 hB w2 w1
  rcases hq with ⟨rfl, hx, rfl⟩ | ⟨rfl, hx, rfl⟩ | ⟨rfl, rfl⟩
  · go_wp2_with fail
    obtain ⟨p0, pb⟩ := put6 hR1 (.int .i64 o) (.int .i64 a0) (.int .i64 a1) (.int .i64 a2) (.int .i64 a3) (.int .i64 a4)
    obtain ⟨⟨q0, q1, q2, q3, q4, q5⟩, -⟩ := six_of p0
    refine bodyPost_ret (v := .tuple #[.agg #[.int .i64 o, .int .i64 a0, .int .i64 a1, .int .i64 a2, .int .i64 a3, .int .i64 a4], .int .i64 0]) (by simp [results, Tryz.results9, go_sem, q0, q1, q2, q3, q4, q5]) rfl ⟨rfl, b2.trans pb⟩
  · go_wp2_with fail
    obtain ⟨p0, pb⟩ := put6 hR1 (.int .i64 0) (.int .i64 0) (.int .i64 0) (.int .i64 0) (.int .i64 0) (.int .i64 0)
    obtain ⟨⟨q0, q1, q2, q3, q4, q5⟩, -⟩ := six_of p0
    refine bodyPost_ret (v := .tuple #[.agg #[.int .i64 0, .int .i64 0, .int .i64 0, .int .i64 0, .int .i64 0, .int .i64 0], .int .i64 50]) (by simp [results, Tryz.results9, go_sem, q0, q1, q2, q3, q4, q5]) rfl ⟨rfl, b2.trans pb⟩
  · go_wp2_with fail
    obtain ⟨p0, pb⟩ := put6 hR1 (.int .i64 0) (.int .i64 0) (.int .i64 0) (.int .i64 0) (.int .i64 0) (.int .i64 0)
    obtain ⟨⟨q0, q1, q2, q3, q4, q5⟩, -⟩ := six_of p0
    refine bodyPost_ret (v := .tuple #[.agg #[.int .i64 0, .int .i64 0, .int .i64 0, .int .i64 0, .int .i64 0, .int .i64 0], .int .i64 50]) (by simp [results, Tryz.results9, go_sem, q0, q1, q2, q3, q4, q5]) rfl ⟨rfl, b2.trans pb⟩

/-- What Parse tells. -/
theorem parse_any (s : ByteArray) (hs : s.size ≤ 140737488355328) : ∃ o a0 a1 a2 a3 a4 e : Int, Asm.Got s.data.toList o a0 a1 a2 a3 a4 e ∧ ∀ w, Lay5 w →
    Calls Tryz.prog 9 #[.string s] w fun e' w' => e' = .returned (.tuple #[.agg #[.int .i64 o, .int .i64 a0, .int .i64 a1, .int .i64 a2, .int .i64 a3, .int .i64 a4], .int .i64 e]) ∧ Below w.heap.size w w' := by
  cases hn : Asm.named (s.data.toList.takeWhile (· != 32)) with
  | none =>
    refine ⟨0, 0, 0, 0, 0, 0, 50, Or.inr ⟨fun op s' t d a i ho hg e => ?_, rfl, rfl, rfl, rfl, rfl, rfl, rfl⟩, fun w L => parse_no s (fun w L => read_none s hs hn w L) w L⟩
    rw [e, Asm.text_name op ho, Asm.named_name op ho] at hn
    cases hn
  | some op =>
    have ho : op < 69 := List.mem_range.mp (List.mem_of_find?_eq_some hn)
    have hread : ∀ op' s' t d a i, op' < 69 → Good op' s' t d a i → s.data.toList = Asm.text op' [s', t, d, a, i] → op' = op ∧ Asm.run (Asm.rounds (Dec.fm op)) (s.data.toList.drop (s.data.toList.takeWhile (· != 32)).length) [0, 0, 0, 0, 0] = some [s', t, d, a, i] := by
      intro op' s' t d a i ho' hg e
      have hr := Asm.read_text op' ho' _ (Asm.full_good ho' hg)
      rw [← e] at hr
      unfold Asm.read at hr
      rw [hn] at hr
      simp only [Option.map_eq_some_iff, Prod.mk.injEq] at hr
      obtain ⟨g, h1, rfl, rfl⟩ := hr
      exact ⟨rfl, h1⟩
    cases hrun : Asm.run (Asm.rounds (Dec.fm op)) (s.data.toList.drop (s.data.toList.takeWhile (· != 32)).length) [0, 0, 0, 0, 0] with
    | none =>
      refine ⟨0, 0, 0, 0, 0, 0, 50, Or.inr ⟨fun op' s' t d a i ho' hg e => ?_, rfl, rfl, rfl, rfl, rfl, rfl, rfl⟩, fun w L => parse_no s (fun w L => ?_) w L⟩
      · have := (hread op' s' t d a i ho' hg e).2
        rw [hrun] at this
        cases this
      · refine (read_some s hs op hn w L).mono ?_
        rintro e w' ⟨⟨s', t, d, a, i, h1, -⟩ | ⟨-, rfl⟩, hb⟩
        · rw [hrun] at h1; cases h1
        · exact ⟨rfl, hb⟩
    | some g =>
      by_cases hg5 : ∃ s' t d a i : Int, g = [s', t, d, a, i]
      · obtain ⟨s', t, d, a, i, rfl⟩ := hg5
        obtain ⟨x, e, hsaid, hp⟩ := print_any (op : Int) s' t d a i
        have hr : ∀ w, Lay5 w → Calls Tryz.prog 19 #[.string s] w fun e w' => e = .returned (.tuple #[.agg #[.int .i64 (op : Int), .int .i64 s', .int .i64 t, .int .i64 d, .int .i64 a, .int .i64 i], .bool true]) ∧ Below w.heap.size w w' := by
          intro w L
          refine (read_some s hs op hn w L).mono ?_
          rintro e w' ⟨⟨s2, t2, d2, a2, i2, h1, rfl⟩ | ⟨h1, -⟩, hb⟩
          · rw [hrun] at h1; cases h1; exact ⟨rfl, hb⟩
          · rw [hrun] at h1; cases h1
        rcases hsaid with ⟨op2, ho2, heq, hg, rfl, rfl⟩ | ⟨hno, rfl, rfl⟩
        · obtain rfl : op2 = op := by omega
          by_cases hx : Asm.text op2 [s', t, d, a, i] = s.data.toList
          · have hxb : ((⟨(Asm.text op2 [s', t, d, a, i]).toArray⟩ : ByteArray).toList == s.toList) = true := by
              rw [ByteArray.toList_eq, ByteArray.toList_eq, ← hx]; simp
            exact ⟨_, _, _, _, _, _, _, Or.inl ⟨op2, ho, rfl, hg, hx.symm, rfl⟩, fun w L => parse_yes s _ _ _ _ _ _ _ 0 true (Or.inl ⟨rfl, hxb, rfl⟩) hr hp w L⟩
          · have hxb : ((⟨(Asm.text op2 [s', t, d, a, i]).toArray⟩ : ByteArray).toList == s.toList) = false := by
              rw [ByteArray.toList_eq, ByteArray.toList_eq]; simpa using hx
            refine ⟨0, 0, 0, 0, 0, 0, 50, Or.inr ⟨fun op' s2 t2 d2 a2 i2 ho' hg' e => ?_, rfl, rfl, rfl, rfl, rfl, rfl, rfl⟩, fun w L => parse_yes s _ _ _ _ _ _ _ 0 false (Or.inr (Or.inl ⟨rfl, hxb, rfl⟩)) hr hp w L⟩
            obtain ⟨rfl, h2⟩ := hread op' s2 t2 d2 a2 i2 ho' hg' e
            rw [hrun] at h2
            cases h2
            exact hx e.symm
        · refine ⟨0, 0, 0, 0, 0, 0, 50, Or.inr ⟨fun op' s2 t2 d2 a2 i2 ho' hg' e => ?_, rfl, rfl, rfl, rfl, rfl, rfl, rfl⟩, fun w L => parse_yes s _ _ _ _ _ _ _ 50 false (Or.inr (Or.inr ⟨rfl, rfl⟩)) hr hp w L⟩
          obtain ⟨rfl, h2⟩ := hread op' s2 t2 d2 a2 i2 ho' hg' e
          rw [hrun] at h2
          cases h2
          exact hno op' ho rfl hg'
      · refine ⟨0, 0, 0, 0, 0, 0, 50, Or.inr ⟨fun op' s2 t2 d2 a2 i2 ho' hg' e => ?_, rfl, rfl, rfl, rfl, rfl, rfl, rfl⟩, fun w L => ?_⟩
        · have h2 := (hread op' s2 t2 d2 a2 i2 ho' hg' e).2
          rw [hrun] at h2
          cases h2
          exact hg5 ⟨_, _, _, _, _, rfl⟩
        · refine parse_no s (fun w L => ?_) w L
          refine (read_some s hs op hn w L).mono ?_
          rintro e w' ⟨⟨s', t, d, a, i, h1, -⟩ | ⟨-, rfl⟩, hb⟩
          · rw [hrun] at h1; cases h1; exact absurd ⟨_, _, _, _, _, rfl⟩ hg5
          · exact ⟨rfl, hb⟩

end Go.Proofs.YtahbbhgoacbejaaGreatDoor
