/- What any operations that may be make of any registers is as the document says. -/
import Derived.Test.YtfnmihjchlljbaaDoorQIrPartsM
import Derived.Test.YtfnmihjchlljbaaDoorQIrRMay2
import Derived.Test.YtfnmihjchlljbaaDoorQIrRUntil
import Derived.Deep.CutRange
namespace Go.Proofs.YtfnmihjchlljbaaDoor.Ir
open Go.RowKit
set_option linter.unusedVariables false
set_option maxRecDepth 100000
set_option linter.unusedSimpArgs false

theorem mayFrom_c : ∀ (l : List Mi) (p : Int), mayFrom p l = true → ∀ (i : Nat) (m : Mi), l[i]? = some m → m.c ≤ 16
  | [], _, _ => fun i m h => by simp at h
  | x :: l, p, h => fun i m hi => by
    unfold mayFrom at h
    simp only [Bool.and_eq_true, decide_eq_true_eq] at h
    cases i with
    | zero => obtain rfl : x = m := by simpa using hi
              exact h.1.2.1
    | succ i => exact mayFrom_c l x.c h.2 i m (by simpa using hi)

set_option maxHeartbeats 8000000 in
theorem runs_cut {w : World} (tb : De.Tabs w) {ad : Option Addr} {n c K : Nat} {l : List Mi} (hnc : n ≤ c) (hK : (n ≤ 20 ∧ K = n) ∨ (20 < n ∧ K = 20)) (h : IsOps w (.slice ad K c) l) (hw : WordsM l) (R : Nat → Int) (hR : ∀ k, Cp.W32 (R k)) (cnt : Int) :
    Calls Tryd.prog 5 #[.slice ad n c, .agg (cellsX R), .int .i64 cnt] w fun e w' => e = .returned (.bool true) ∧ Below w.heap.size w w' := by
  obtain ⟨r1, r2, r3, r4, r5, r6, r7, r8, r9⟩ := rowRules
  obtain ⟨s1, s2, s3, s4, s5, s6, s7, s8, s9, s10⟩ := irSizes
  obtain ⟨q1, q2, q3, q4, q5, q6⟩ := irWhole
  obtain ⟨k1, k2⟩ := rowSets
  have b0 := Box.new w (cellsX R) 32
  have g0 := grow w (.cells (cellsX R) 32)
  have c1 := hide (fun (y : World) (hb : Below w.heap.size w y) => run_any (h.on hb) hw R hR)
  have c2 := hide (fun (y : World) (hb : Below w.heap.size w y) => until_any (h.on hb) hw R hR cnt)
  have c3 := hide (fun (y : World) (hb : Below w.heap.size w y) => rmay_any (h.on hb))
  have cf := hide (fun (y : World) (hb : Below w.heap.size w y) => fixed_any y (tb.on hb))
  obtain ⟨F1, e1⟩ : ∃ F, untilV 9223372036854775807 l (putR R 0 0) = F := ⟨_, rfl⟩
  obtain ⟨F2, e2⟩ : ∃ F, untilV cnt l (putR R 0 0) = F := ⟨_, rfl⟩
  rw [e1] at c1
  rw [e2] at c2
  have c4 : Hid (mayB l = true → ∀ (y : World) (hb : Below w.heap.size w y), Calls Tryd.prog 17 #[.slice ad K c, .agg (cellsX R), .int .i64 16] y fun e w' => e = .returned (.agg (cellsX F1)) ∧ Below y.heap.size y w') := hide (fun hm y hb => by
    have hm' : mayFrom 0 l = true := by unfold mayB at hm; simp at hm; exact hm.2
    have := runtil_any (h.on hb) hw (mayFrom_sound l 0 hm') R hR 16
    rw [until_all l _ (mayFrom_c l 0 hm') 9223372036854775807 (by omega), e1] at this
    exact this)
  have c5 : Hid (mayB l = true → ∀ (y : World) (hb : Below w.heap.size w y), Calls Tryd.prog 17 #[.slice ad K c, .agg (cellsX R), .int .i64 cnt] y fun e w' => e = .returned (.agg (cellsX F2)) ∧ Below y.heap.size y w') := hide (fun hm y hb => by
    have hm' : mayFrom 0 l = true := by unfold mayB at hm; simp at hm; exact hm.2
    have := runtil_any (h.on hb) hw (mayFrom_sound l 0 hm') R hR cnt
    rw [e2] at this
    exact this)
  generalize mayB l = B at *
  replace b0 := hide b0
  replace g0 := hide g0
  replace tb := hide tb
  clear h e1 e2 hw hR
  rcases hK with ⟨hn, rfl⟩ | ⟨hn, rfl⟩
  all_goals
    go_enter Tryd.func5, Tryd.ntmps5
    go_wp2_with fail
    have hX := hide (b0.out.on (Below.refl _ _).drew)
    have hB := hide g0.out.drew
    clear b0 g0
    go_cut [7, 8] from 9 (fun s7 s8 x => ∃ LA LC, s7 = .pointer (some ⟨LA, 0, none⟩) ∧ s8 = .pointer (some ⟨LC, 0, none⟩) ∧ Hid (Box x w.heap.size (cellsX R) ∧ Box x LA (cellsX F1) ∧ Box x LC (cellsX F2) ∧ Below w.heap.size w x))
    case first => as_aux_lemma =>
      refine wp_region_held_drew (S := fun y => Box y w.heap.size (cellsX R)) (by kernel_rfl) hX.out (fun hHeld => ?_)
      generalize World.drew _ = y0 at *
      refine wpAnyH_take (i := 0) (v := ?_) rfl (by kernel_rfl) (by kernel_rfl) (by kernel_rfl) (fun _ _ _ h => h) (Or.inl ⟨by rfl, ?_⟩) (by assumption) ?_
      rotate_left
      · intro y hSw
        have ld := hSw.loads 0 N32 (q4 _) (q5 _)
        go_simp
        try with_reducible rfl
      try simp only [Act.put, List.setIfInBounds_toArray, List.set_cons_zero, List.set_cons_succ]
      refine wpAnyH_take (i := 1) (v := ?_) rfl (by kernel_rfl) (by kernel_rfl) (by kernel_rfl) (fun _ _ _ h => h) (Or.inl ⟨by rfl, ?_⟩) (by assumption) ?_
      rotate_left
      · intro y hSw
        have ld := hSw.loads 0 N32 (q4 _) (q5 _)
        go_simp
        try with_reducible rfl
      try simp only [Act.put, List.setIfInBounds_toArray, List.set_cons_zero, List.set_cons_succ]
      refine wpAnyH_take (i := 3) (v := ?_) rfl (by kernel_rfl) (by kernel_rfl) (by kernel_rfl) (fun _ _ _ h => h) (Or.inl ⟨by rfl, ?_⟩) (by assumption) ?_
      rotate_left
      · intro y hSw
        have ld := hSw.loads 0 N32 (q4 _) (q5 _)
        go_simp
        try with_reducible rfl
      try simp only [Act.put, List.setIfInBounds_toArray, List.set_cons_zero, List.set_cons_succ]
      refine wpAnyH_take (i := 4) (v := ?_) rfl (by kernel_rfl) (by kernel_rfl) (by kernel_rfl) (fun _ _ _ h => h) (Or.inl ⟨by rfl, ?_⟩) (by assumption) ?_
      rotate_left
      · intro y hSw
        have ld := hSw.loads 0 N32 (q4 _) (q5 _)
        go_simp
        try with_reducible rfl
      try simp only [Act.put, List.setIfInBounds_toArray, List.set_cons_zero, List.set_cons_succ]
      refine wpAnyH_take (i := 5) (v := ?_) rfl (by kernel_rfl) (by kernel_rfl) (by kernel_rfl) (fun _ _ _ h => h) (Or.inl ⟨by rfl, ?_⟩) (by assumption) ?_
      rotate_left
      · intro y hSw
        have ld := hSw.loads 0 N32 (q4 _) (q5 _)
        go_simp
        try with_reducible rfl
      try simp only [Act.put, List.setIfInBounds_toArray, List.set_cons_zero, List.set_cons_succ]
      refine wpAnyH_ready (rs := [2, 7, 8]) (by kernel_rfl) (by simp) ?_
      refine AllReadyH.cons rfl (fun K hK => ?_) ?_
      · go_simp
        refine (c1.out _ hB.out).mono ?_
        rintro e y1 ⟨rfl, bl⟩
        replace hX := hide (hX.out.on bl)
        replace hB := hide (onto hB.out (Nat.le_refl _) bl)
        go_wp2_with fail
        refine hK.out _ _ (hHeld.on bl) (fun hHeld => ?_)
        clear hK K
        try simp only [Act.put, List.setIfInBounds_toArray, List.set_cons_zero, List.set_cons_succ]
        clear bl
        refine wpAnyH_ready (rs := [6, 7, 8]) (by kernel_rfl) (by simp) ?_
        refine AllReadyH.cons rfl (fun K hK => ?_) ?_
        · go_simp
          refine (c2.out _ hB.out).mono ?_
          rintro e y2 ⟨rfl, bl⟩
          replace hX := hide (hX.out.on bl)
          replace hB := hide (onto hB.out (Nat.le_refl _) bl)
          go_wp2_with fail
          refine hK.out _ _ (hHeld.on bl) (fun hHeld => ?_)
          clear hK K
          try simp only [Act.put, List.setIfInBounds_toArray, List.set_cons_zero, List.set_cons_succ]
          clear bl
          refine wpAnyH_ready (rs := [7, 8]) (by kernel_rfl) (by simp) ?_
          refine AllReadyH.cons rfl (fun K hK => ?_) ?_
          · have nAhX := hX.out.2.2
            go_simp
            refine hK.out _ _ (hHeld.on (grow y2 _)) (fun hHeld => ?_)
            clear hK K
            try simp only [Act.put, List.setIfInBounds_toArray, List.set_cons_zero, List.set_cons_succ]
            have hA := hide (Box.new y2 (cellsX X0) 32)
            replace hX := hide (hX.out.on (grow y2 (.cells (cellsX X0) 32)))
            replace hB := hide (onto hB.out (Nat.le_refl _) (grow y2 (.cells (cellsX X0) 32)))
            generalize World.alloc y2 _ = y3 at *
            generalize y2.heap.size = LA at *
            refine wpAnyH_ready (rs := [8]) (by kernel_rfl) (by simp) ?_
            refine AllReadyH.cons rfl (fun K hK => ?_) AllReadyH.nil
            have nChX := hX.out.2.2
            have nChA := hA.out.2.2
            go_simp
            refine hK.out _ _ (hHeld.on (grow y3 _)) (fun hHeld => ?_)
            clear hK K
            try simp only [Act.put, List.setIfInBounds_toArray, List.set_cons_zero, List.set_cons_succ]
            have hC := hide (Box.new y3 (cellsX X0) 32)
            replace hX := hide (hX.out.on (grow y3 (.cells (cellsX X0) 32)))
            replace hA := hide (hA.out.on (grow y3 (.cells (cellsX X0) 32)))
            replace hB := hide (onto hB.out (Nat.le_refl _) (grow y3 (.cells (cellsX X0) 32)))
            generalize World.alloc y3 _ = y4 at *
            generalize y3.heap.size = LC at *
            refine wpAnyH_ready (rs := [9]) (by kernel_rfl) (by simp) ?_
            refine AllReadyH.cons rfl (fun K hK => ?_) AllReadyH.nil
            have hst := store_part _ LA 0 (cellsX F1) hA.out.1 (by rw [hA.out.2.1, s6]; exact q4 _) (s8 _)
            rw [hA.out.2.1, q6] at hst
            go_simp
            refine hK.out _ _ (hHeld.far LA (cellsX F1) (by omega)) (fun hHeld => ?_)
            clear hK K
            try simp only [Act.put, List.setIfInBounds_toArray, List.set_cons_zero, List.set_cons_succ]
            replace hA := hide (hA.out.set (cellsX F1))
            replace hX := hide (hX.out.far LA (cellsX F1) (by omega))
            replace hC := hide (hC.out.far LA (cellsX F1) (by omega))
            replace hB := hide (below_setRow (g := LA) hB.out (by omega) (cellsX F1))
            clear hst
            refine wpAnyH_ready (rs := [10]) (by kernel_rfl) (by simp) ?_
            refine AllReadyH.cons rfl (fun K hK => ?_) AllReadyH.nil
            have hst := store_part _ LC 0 (cellsX F2) hC.out.1 (by rw [hC.out.2.1, s6]; exact q4 _) (s8 _)
            rw [hC.out.2.1, q6] at hst
            go_simp
            refine hK.out _ _ (hHeld.far LC (cellsX F2) (by omega)) (fun hHeld => ?_)
            clear hK K
            try simp only [Act.put, List.setIfInBounds_toArray, List.set_cons_zero, List.set_cons_succ]
            replace hC := hide (hC.out.set (cellsX F2))
            replace hX := hide (hX.out.far LC (cellsX F2) (by omega))
            replace hA := hide (hA.out.far LC (cellsX F2) (by omega))
            replace hB := hide (below_setRow (g := LC) hB.out (by omega) (cellsX F2))
            clear hst
            refine wpAnyH_done (by kernel_rfl) ?_ _
            go_wp2_with fail
            go_meet
            case rel => exact ⟨_, _, rfl, rfl, hide ⟨hX.out, hA.out, hC.out, hB.out⟩⟩
          refine AllReadyH.cons rfl (fun K hK => ?_) AllReadyH.nil
          have nChX := hX.out.2.2
          go_simp
          refine hK.out _ _ (hHeld.on (grow y2 _)) (fun hHeld => ?_)
          clear hK K
          try simp only [Act.put, List.setIfInBounds_toArray, List.set_cons_zero, List.set_cons_succ]
          have hC := hide (Box.new y2 (cellsX X0) 32)
          replace hX := hide (hX.out.on (grow y2 (.cells (cellsX X0) 32)))
          replace hB := hide (onto hB.out (Nat.le_refl _) (grow y2 (.cells (cellsX X0) 32)))
          generalize World.alloc y2 _ = y3 at *
          generalize y2.heap.size = LC at *
          refine wpAnyH_ready (rs := [7]) (by kernel_rfl) (by simp) ?_
          refine AllReadyH.cons rfl (fun K hK => ?_) AllReadyH.nil
          have nAhX := hX.out.2.2
          have nAhC := hC.out.2.2
          go_simp
          refine hK.out _ _ (hHeld.on (grow y3 _)) (fun hHeld => ?_)
          clear hK K
          try simp only [Act.put, List.setIfInBounds_toArray, List.set_cons_zero, List.set_cons_succ]
          have hA := hide (Box.new y3 (cellsX X0) 32)
          replace hX := hide (hX.out.on (grow y3 (.cells (cellsX X0) 32)))
          replace hC := hide (hC.out.on (grow y3 (.cells (cellsX X0) 32)))
          replace hB := hide (onto hB.out (Nat.le_refl _) (grow y3 (.cells (cellsX X0) 32)))
          generalize World.alloc y3 _ = y4 at *
          generalize y3.heap.size = LA at *
          refine wpAnyH_ready (rs := [9]) (by kernel_rfl) (by simp) ?_
          refine AllReadyH.cons rfl (fun K hK => ?_) AllReadyH.nil
          have hst := store_part _ LA 0 (cellsX F1) hA.out.1 (by rw [hA.out.2.1, s6]; exact q4 _) (s8 _)
          rw [hA.out.2.1, q6] at hst
          go_simp
          refine hK.out _ _ (hHeld.far LA (cellsX F1) (by omega)) (fun hHeld => ?_)
          clear hK K
          try simp only [Act.put, List.setIfInBounds_toArray, List.set_cons_zero, List.set_cons_succ]
          replace hA := hide (hA.out.set (cellsX F1))
          replace hX := hide (hX.out.far LA (cellsX F1) (by omega))
          replace hC := hide (hC.out.far LA (cellsX F1) (by omega))
          replace hB := hide (below_setRow (g := LA) hB.out (by omega) (cellsX F1))
          clear hst
          refine wpAnyH_ready (rs := [10]) (by kernel_rfl) (by simp) ?_
          refine AllReadyH.cons rfl (fun K hK => ?_) AllReadyH.nil
          have hst := store_part _ LC 0 (cellsX F2) hC.out.1 (by rw [hC.out.2.1, s6]; exact q4 _) (s8 _)
          rw [hC.out.2.1, q6] at hst
          go_simp
          refine hK.out _ _ (hHeld.far LC (cellsX F2) (by omega)) (fun hHeld => ?_)
          clear hK K
          try simp only [Act.put, List.setIfInBounds_toArray, List.set_cons_zero, List.set_cons_succ]
          replace hC := hide (hC.out.set (cellsX F2))
          replace hX := hide (hX.out.far LC (cellsX F2) (by omega))
          replace hA := hide (hA.out.far LC (cellsX F2) (by omega))
          replace hB := hide (below_setRow (g := LC) hB.out (by omega) (cellsX F2))
          clear hst
          refine wpAnyH_done (by kernel_rfl) ?_ _
          go_wp2_with fail
          go_meet
          case rel => exact ⟨_, _, rfl, rfl, hide ⟨hX.out, hA.out, hC.out, hB.out⟩⟩
        refine AllReadyH.cons rfl (fun K hK => ?_) ?_
        · have nAhX := hX.out.2.2
          go_simp
          refine hK.out _ _ (hHeld.on (grow y1 _)) (fun hHeld => ?_)
          clear hK K
          try simp only [Act.put, List.setIfInBounds_toArray, List.set_cons_zero, List.set_cons_succ]
          have hA := hide (Box.new y1 (cellsX X0) 32)
          replace hX := hide (hX.out.on (grow y1 (.cells (cellsX X0) 32)))
          replace hB := hide (onto hB.out (Nat.le_refl _) (grow y1 (.cells (cellsX X0) 32)))
          generalize World.alloc y1 _ = y2 at *
          generalize y1.heap.size = LA at *
          refine wpAnyH_ready (rs := [6, 8]) (by kernel_rfl) (by simp) ?_
          refine AllReadyH.cons rfl (fun K hK => ?_) ?_
          · go_simp
            refine (c2.out _ hB.out).mono ?_
            rintro e y3 ⟨rfl, bl⟩
            replace hX := hide (hX.out.on bl)
            replace hA := hide (hA.out.on bl)
            replace hB := hide (onto hB.out (Nat.le_refl _) bl)
            go_wp2_with fail
            refine hK.out _ _ (hHeld.on bl) (fun hHeld => ?_)
            clear hK K
            try simp only [Act.put, List.setIfInBounds_toArray, List.set_cons_zero, List.set_cons_succ]
            clear bl
            refine wpAnyH_ready (rs := [8]) (by kernel_rfl) (by simp) ?_
            refine AllReadyH.cons rfl (fun K hK => ?_) AllReadyH.nil
            have nChX := hX.out.2.2
            have nChA := hA.out.2.2
            go_simp
            refine hK.out _ _ (hHeld.on (grow y3 _)) (fun hHeld => ?_)
            clear hK K
            try simp only [Act.put, List.setIfInBounds_toArray, List.set_cons_zero, List.set_cons_succ]
            have hC := hide (Box.new y3 (cellsX X0) 32)
            replace hX := hide (hX.out.on (grow y3 (.cells (cellsX X0) 32)))
            replace hA := hide (hA.out.on (grow y3 (.cells (cellsX X0) 32)))
            replace hB := hide (onto hB.out (Nat.le_refl _) (grow y3 (.cells (cellsX X0) 32)))
            generalize World.alloc y3 _ = y4 at *
            generalize y3.heap.size = LC at *
            refine wpAnyH_ready (rs := [9]) (by kernel_rfl) (by simp) ?_
            refine AllReadyH.cons rfl (fun K hK => ?_) AllReadyH.nil
            have hst := store_part _ LA 0 (cellsX F1) hA.out.1 (by rw [hA.out.2.1, s6]; exact q4 _) (s8 _)
            rw [hA.out.2.1, q6] at hst
            go_simp
            refine hK.out _ _ (hHeld.far LA (cellsX F1) (by omega)) (fun hHeld => ?_)
            clear hK K
            try simp only [Act.put, List.setIfInBounds_toArray, List.set_cons_zero, List.set_cons_succ]
            replace hA := hide (hA.out.set (cellsX F1))
            replace hX := hide (hX.out.far LA (cellsX F1) (by omega))
            replace hC := hide (hC.out.far LA (cellsX F1) (by omega))
            replace hB := hide (below_setRow (g := LA) hB.out (by omega) (cellsX F1))
            clear hst
            refine wpAnyH_ready (rs := [10]) (by kernel_rfl) (by simp) ?_
            refine AllReadyH.cons rfl (fun K hK => ?_) AllReadyH.nil
            have hst := store_part _ LC 0 (cellsX F2) hC.out.1 (by rw [hC.out.2.1, s6]; exact q4 _) (s8 _)
            rw [hC.out.2.1, q6] at hst
            go_simp
            refine hK.out _ _ (hHeld.far LC (cellsX F2) (by omega)) (fun hHeld => ?_)
            clear hK K
            try simp only [Act.put, List.setIfInBounds_toArray, List.set_cons_zero, List.set_cons_succ]
            replace hC := hide (hC.out.set (cellsX F2))
            replace hX := hide (hX.out.far LC (cellsX F2) (by omega))
            replace hA := hide (hA.out.far LC (cellsX F2) (by omega))
            replace hB := hide (below_setRow (g := LC) hB.out (by omega) (cellsX F2))
            clear hst
            refine wpAnyH_done (by kernel_rfl) ?_ _
            go_wp2_with fail
            go_meet
            case rel => exact ⟨_, _, rfl, rfl, hide ⟨hX.out, hA.out, hC.out, hB.out⟩⟩
          refine AllReadyH.cons rfl (fun K hK => ?_) AllReadyH.nil
          have nChX := hX.out.2.2
          have nChA := hA.out.2.2
          go_simp
          refine hK.out _ _ (hHeld.on (grow y2 _)) (fun hHeld => ?_)
          clear hK K
          try simp only [Act.put, List.setIfInBounds_toArray, List.set_cons_zero, List.set_cons_succ]
          have hC := hide (Box.new y2 (cellsX X0) 32)
          replace hX := hide (hX.out.on (grow y2 (.cells (cellsX X0) 32)))
          replace hA := hide (hA.out.on (grow y2 (.cells (cellsX X0) 32)))
          replace hB := hide (onto hB.out (Nat.le_refl _) (grow y2 (.cells (cellsX X0) 32)))
          generalize World.alloc y2 _ = y3 at *
          generalize y2.heap.size = LC at *
          refine wpAnyH_ready (rs := [6]) (by kernel_rfl) (by simp) ?_
          refine AllReadyH.cons rfl (fun K hK => ?_) AllReadyH.nil
          go_simp
          refine (c2.out _ hB.out).mono ?_
          rintro e y4 ⟨rfl, bl⟩
          replace hX := hide (hX.out.on bl)
          replace hA := hide (hA.out.on bl)
          replace hC := hide (hC.out.on bl)
          replace hB := hide (onto hB.out (Nat.le_refl _) bl)
          go_wp2_with fail
          refine hK.out _ _ (hHeld.on bl) (fun hHeld => ?_)
          clear hK K
          try simp only [Act.put, List.setIfInBounds_toArray, List.set_cons_zero, List.set_cons_succ]
          clear bl
          refine wpAnyH_ready (rs := [9]) (by kernel_rfl) (by simp) ?_
          refine AllReadyH.cons rfl (fun K hK => ?_) AllReadyH.nil
          have hst := store_part _ LA 0 (cellsX F1) hA.out.1 (by rw [hA.out.2.1, s6]; exact q4 _) (s8 _)
          rw [hA.out.2.1, q6] at hst
          go_simp
          refine hK.out _ _ (hHeld.far LA (cellsX F1) (by omega)) (fun hHeld => ?_)
          clear hK K
          try simp only [Act.put, List.setIfInBounds_toArray, List.set_cons_zero, List.set_cons_succ]
          replace hA := hide (hA.out.set (cellsX F1))
          replace hX := hide (hX.out.far LA (cellsX F1) (by omega))
          replace hC := hide (hC.out.far LA (cellsX F1) (by omega))
          replace hB := hide (below_setRow (g := LA) hB.out (by omega) (cellsX F1))
          clear hst
          refine wpAnyH_ready (rs := [10]) (by kernel_rfl) (by simp) ?_
          refine AllReadyH.cons rfl (fun K hK => ?_) AllReadyH.nil
          have hst := store_part _ LC 0 (cellsX F2) hC.out.1 (by rw [hC.out.2.1, s6]; exact q4 _) (s8 _)
          rw [hC.out.2.1, q6] at hst
          go_simp
          refine hK.out _ _ (hHeld.far LC (cellsX F2) (by omega)) (fun hHeld => ?_)
          clear hK K
          try simp only [Act.put, List.setIfInBounds_toArray, List.set_cons_zero, List.set_cons_succ]
          replace hC := hide (hC.out.set (cellsX F2))
          replace hX := hide (hX.out.far LC (cellsX F2) (by omega))
          replace hA := hide (hA.out.far LC (cellsX F2) (by omega))
          replace hB := hide (below_setRow (g := LC) hB.out (by omega) (cellsX F2))
          clear hst
          refine wpAnyH_done (by kernel_rfl) ?_ _
          go_wp2_with fail
          go_meet
          case rel => exact ⟨_, _, rfl, rfl, hide ⟨hX.out, hA.out, hC.out, hB.out⟩⟩
        refine AllReadyH.cons rfl (fun K hK => ?_) AllReadyH.nil
        have nChX := hX.out.2.2
        go_simp
        refine hK.out _ _ (hHeld.on (grow y1 _)) (fun hHeld => ?_)
        clear hK K
        try simp only [Act.put, List.setIfInBounds_toArray, List.set_cons_zero, List.set_cons_succ]
        have hC := hide (Box.new y1 (cellsX X0) 32)
        replace hX := hide (hX.out.on (grow y1 (.cells (cellsX X0) 32)))
        replace hB := hide (onto hB.out (Nat.le_refl _) (grow y1 (.cells (cellsX X0) 32)))
        generalize World.alloc y1 _ = y2 at *
        generalize y1.heap.size = LC at *
        refine wpAnyH_ready (rs := [6, 7]) (by kernel_rfl) (by simp) ?_
        refine AllReadyH.cons rfl (fun K hK => ?_) ?_
        · go_simp
          refine (c2.out _ hB.out).mono ?_
          rintro e y3 ⟨rfl, bl⟩
          replace hX := hide (hX.out.on bl)
          replace hC := hide (hC.out.on bl)
          replace hB := hide (onto hB.out (Nat.le_refl _) bl)
          go_wp2_with fail
          refine hK.out _ _ (hHeld.on bl) (fun hHeld => ?_)
          clear hK K
          try simp only [Act.put, List.setIfInBounds_toArray, List.set_cons_zero, List.set_cons_succ]
          clear bl
          refine wpAnyH_ready (rs := [7]) (by kernel_rfl) (by simp) ?_
          refine AllReadyH.cons rfl (fun K hK => ?_) AllReadyH.nil
          have nAhX := hX.out.2.2
          have nAhC := hC.out.2.2
          go_simp
          refine hK.out _ _ (hHeld.on (grow y3 _)) (fun hHeld => ?_)
          clear hK K
          try simp only [Act.put, List.setIfInBounds_toArray, List.set_cons_zero, List.set_cons_succ]
          have hA := hide (Box.new y3 (cellsX X0) 32)
          replace hX := hide (hX.out.on (grow y3 (.cells (cellsX X0) 32)))
          replace hC := hide (hC.out.on (grow y3 (.cells (cellsX X0) 32)))
          replace hB := hide (onto hB.out (Nat.le_refl _) (grow y3 (.cells (cellsX X0) 32)))
          generalize World.alloc y3 _ = y4 at *
          generalize y3.heap.size = LA at *
          refine wpAnyH_ready (rs := [9]) (by kernel_rfl) (by simp) ?_
          refine AllReadyH.cons rfl (fun K hK => ?_) AllReadyH.nil
          have hst := store_part _ LA 0 (cellsX F1) hA.out.1 (by rw [hA.out.2.1, s6]; exact q4 _) (s8 _)
          rw [hA.out.2.1, q6] at hst
          go_simp
          refine hK.out _ _ (hHeld.far LA (cellsX F1) (by omega)) (fun hHeld => ?_)
          clear hK K
          try simp only [Act.put, List.setIfInBounds_toArray, List.set_cons_zero, List.set_cons_succ]
          replace hA := hide (hA.out.set (cellsX F1))
          replace hX := hide (hX.out.far LA (cellsX F1) (by omega))
          replace hC := hide (hC.out.far LA (cellsX F1) (by omega))
          replace hB := hide (below_setRow (g := LA) hB.out (by omega) (cellsX F1))
          clear hst
          refine wpAnyH_ready (rs := [10]) (by kernel_rfl) (by simp) ?_
          refine AllReadyH.cons rfl (fun K hK => ?_) AllReadyH.nil
          have hst := store_part _ LC 0 (cellsX F2) hC.out.1 (by rw [hC.out.2.1, s6]; exact q4 _) (s8 _)
          rw [hC.out.2.1, q6] at hst
          go_simp
          refine hK.out _ _ (hHeld.far LC (cellsX F2) (by omega)) (fun hHeld => ?_)
          clear hK K
          try simp only [Act.put, List.setIfInBounds_toArray, List.set_cons_zero, List.set_cons_succ]
          replace hC := hide (hC.out.set (cellsX F2))
          replace hX := hide (hX.out.far LC (cellsX F2) (by omega))
          replace hA := hide (hA.out.far LC (cellsX F2) (by omega))
          replace hB := hide (below_setRow (g := LC) hB.out (by omega) (cellsX F2))
          clear hst
          refine wpAnyH_done (by kernel_rfl) ?_ _
          go_wp2_with fail
          go_meet
          case rel => exact ⟨_, _, rfl, rfl, hide ⟨hX.out, hA.out, hC.out, hB.out⟩⟩
        refine AllReadyH.cons rfl (fun K hK => ?_) AllReadyH.nil
        have nAhX := hX.out.2.2
        have nAhC := hC.out.2.2
        go_simp
        refine hK.out _ _ (hHeld.on (grow y2 _)) (fun hHeld => ?_)
        clear hK K
        try simp only [Act.put, List.setIfInBounds_toArray, List.set_cons_zero, List.set_cons_succ]
        have hA := hide (Box.new y2 (cellsX X0) 32)
        replace hX := hide (hX.out.on (grow y2 (.cells (cellsX X0) 32)))
        replace hC := hide (hC.out.on (grow y2 (.cells (cellsX X0) 32)))
        replace hB := hide (onto hB.out (Nat.le_refl _) (grow y2 (.cells (cellsX X0) 32)))
        generalize World.alloc y2 _ = y3 at *
        generalize y2.heap.size = LA at *
        refine wpAnyH_ready (rs := [6]) (by kernel_rfl) (by simp) ?_
        refine AllReadyH.cons rfl (fun K hK => ?_) AllReadyH.nil
        go_simp
        refine (c2.out _ hB.out).mono ?_
        rintro e y4 ⟨rfl, bl⟩
        replace hX := hide (hX.out.on bl)
        replace hA := hide (hA.out.on bl)
        replace hC := hide (hC.out.on bl)
        replace hB := hide (onto hB.out (Nat.le_refl _) bl)
        go_wp2_with fail
        refine hK.out _ _ (hHeld.on bl) (fun hHeld => ?_)
        clear hK K
        try simp only [Act.put, List.setIfInBounds_toArray, List.set_cons_zero, List.set_cons_succ]
        clear bl
        refine wpAnyH_ready (rs := [9]) (by kernel_rfl) (by simp) ?_
        refine AllReadyH.cons rfl (fun K hK => ?_) AllReadyH.nil
        have hst := store_part _ LA 0 (cellsX F1) hA.out.1 (by rw [hA.out.2.1, s6]; exact q4 _) (s8 _)
        rw [hA.out.2.1, q6] at hst
        go_simp
        refine hK.out _ _ (hHeld.far LA (cellsX F1) (by omega)) (fun hHeld => ?_)
        clear hK K
        try simp only [Act.put, List.setIfInBounds_toArray, List.set_cons_zero, List.set_cons_succ]
        replace hA := hide (hA.out.set (cellsX F1))
        replace hX := hide (hX.out.far LA (cellsX F1) (by omega))
        replace hC := hide (hC.out.far LA (cellsX F1) (by omega))
        replace hB := hide (below_setRow (g := LA) hB.out (by omega) (cellsX F1))
        clear hst
        refine wpAnyH_ready (rs := [10]) (by kernel_rfl) (by simp) ?_
        refine AllReadyH.cons rfl (fun K hK => ?_) AllReadyH.nil
        have hst := store_part _ LC 0 (cellsX F2) hC.out.1 (by rw [hC.out.2.1, s6]; exact q4 _) (s8 _)
        rw [hC.out.2.1, q6] at hst
        go_simp
        refine hK.out _ _ (hHeld.far LC (cellsX F2) (by omega)) (fun hHeld => ?_)
        clear hK K
        try simp only [Act.put, List.setIfInBounds_toArray, List.set_cons_zero, List.set_cons_succ]
        replace hC := hide (hC.out.set (cellsX F2))
        replace hX := hide (hX.out.far LC (cellsX F2) (by omega))
        replace hA := hide (hA.out.far LC (cellsX F2) (by omega))
        replace hB := hide (below_setRow (g := LC) hB.out (by omega) (cellsX F2))
        clear hst
        refine wpAnyH_done (by kernel_rfl) ?_ _
        go_wp2_with fail
        go_meet
        case rel => exact ⟨_, _, rfl, rfl, hide ⟨hX.out, hA.out, hC.out, hB.out⟩⟩
      refine AllReadyH.cons rfl (fun K hK => ?_) ?_
      · have nAhX := hX.out.2.2
        go_simp
        refine hK.out _ _ (hHeld.on (grow y0 _)) (fun hHeld => ?_)
        clear hK K
        try simp only [Act.put, List.setIfInBounds_toArray, List.set_cons_zero, List.set_cons_succ]
        have hA := hide (Box.new y0 (cellsX X0) 32)
        replace hX := hide (hX.out.on (grow y0 (.cells (cellsX X0) 32)))
        replace hB := hide (onto hB.out (Nat.le_refl _) (grow y0 (.cells (cellsX X0) 32)))
        generalize World.alloc y0 _ = y1 at *
        generalize y0.heap.size = LA at *
        refine wpAnyH_ready (rs := [2, 8]) (by kernel_rfl) (by simp) ?_
        refine AllReadyH.cons rfl (fun K hK => ?_) ?_
        · go_simp
          refine (c1.out _ hB.out).mono ?_
          rintro e y2 ⟨rfl, bl⟩
          replace hX := hide (hX.out.on bl)
          replace hA := hide (hA.out.on bl)
          replace hB := hide (onto hB.out (Nat.le_refl _) bl)
          go_wp2_with fail
          refine hK.out _ _ (hHeld.on bl) (fun hHeld => ?_)
          clear hK K
          try simp only [Act.put, List.setIfInBounds_toArray, List.set_cons_zero, List.set_cons_succ]
          clear bl
          refine wpAnyH_ready (rs := [6, 8]) (by kernel_rfl) (by simp) ?_
          refine AllReadyH.cons rfl (fun K hK => ?_) ?_
          · go_simp
            refine (c2.out _ hB.out).mono ?_
            rintro e y3 ⟨rfl, bl⟩
            replace hX := hide (hX.out.on bl)
            replace hA := hide (hA.out.on bl)
            replace hB := hide (onto hB.out (Nat.le_refl _) bl)
            go_wp2_with fail
            refine hK.out _ _ (hHeld.on bl) (fun hHeld => ?_)
            clear hK K
            try simp only [Act.put, List.setIfInBounds_toArray, List.set_cons_zero, List.set_cons_succ]
            clear bl
            refine wpAnyH_ready (rs := [8]) (by kernel_rfl) (by simp) ?_
            refine AllReadyH.cons rfl (fun K hK => ?_) AllReadyH.nil
            have nChX := hX.out.2.2
            have nChA := hA.out.2.2
            go_simp
            refine hK.out _ _ (hHeld.on (grow y3 _)) (fun hHeld => ?_)
            clear hK K
            try simp only [Act.put, List.setIfInBounds_toArray, List.set_cons_zero, List.set_cons_succ]
            have hC := hide (Box.new y3 (cellsX X0) 32)
            replace hX := hide (hX.out.on (grow y3 (.cells (cellsX X0) 32)))
            replace hA := hide (hA.out.on (grow y3 (.cells (cellsX X0) 32)))
            replace hB := hide (onto hB.out (Nat.le_refl _) (grow y3 (.cells (cellsX X0) 32)))
            generalize World.alloc y3 _ = y4 at *
            generalize y3.heap.size = LC at *
            refine wpAnyH_ready (rs := [9]) (by kernel_rfl) (by simp) ?_
            refine AllReadyH.cons rfl (fun K hK => ?_) AllReadyH.nil
            have hst := store_part _ LA 0 (cellsX F1) hA.out.1 (by rw [hA.out.2.1, s6]; exact q4 _) (s8 _)
            rw [hA.out.2.1, q6] at hst
            go_simp
            refine hK.out _ _ (hHeld.far LA (cellsX F1) (by omega)) (fun hHeld => ?_)
            clear hK K
            try simp only [Act.put, List.setIfInBounds_toArray, List.set_cons_zero, List.set_cons_succ]
            replace hA := hide (hA.out.set (cellsX F1))
            replace hX := hide (hX.out.far LA (cellsX F1) (by omega))
            replace hC := hide (hC.out.far LA (cellsX F1) (by omega))
            replace hB := hide (below_setRow (g := LA) hB.out (by omega) (cellsX F1))
            clear hst
            refine wpAnyH_ready (rs := [10]) (by kernel_rfl) (by simp) ?_
            refine AllReadyH.cons rfl (fun K hK => ?_) AllReadyH.nil
            have hst := store_part _ LC 0 (cellsX F2) hC.out.1 (by rw [hC.out.2.1, s6]; exact q4 _) (s8 _)
            rw [hC.out.2.1, q6] at hst
            go_simp
            refine hK.out _ _ (hHeld.far LC (cellsX F2) (by omega)) (fun hHeld => ?_)
            clear hK K
            try simp only [Act.put, List.setIfInBounds_toArray, List.set_cons_zero, List.set_cons_succ]
            replace hC := hide (hC.out.set (cellsX F2))
            replace hX := hide (hX.out.far LC (cellsX F2) (by omega))
            replace hA := hide (hA.out.far LC (cellsX F2) (by omega))
            replace hB := hide (below_setRow (g := LC) hB.out (by omega) (cellsX F2))
            clear hst
            refine wpAnyH_done (by kernel_rfl) ?_ _
            go_wp2_with fail
            go_meet
            case rel => exact ⟨_, _, rfl, rfl, hide ⟨hX.out, hA.out, hC.out, hB.out⟩⟩
          refine AllReadyH.cons rfl (fun K hK => ?_) AllReadyH.nil
          have nChX := hX.out.2.2
          have nChA := hA.out.2.2
          go_simp
          refine hK.out _ _ (hHeld.on (grow y2 _)) (fun hHeld => ?_)
          clear hK K
          try simp only [Act.put, List.setIfInBounds_toArray, List.set_cons_zero, List.set_cons_succ]
          have hC := hide (Box.new y2 (cellsX X0) 32)
          replace hX := hide (hX.out.on (grow y2 (.cells (cellsX X0) 32)))
          replace hA := hide (hA.out.on (grow y2 (.cells (cellsX X0) 32)))
          replace hB := hide (onto hB.out (Nat.le_refl _) (grow y2 (.cells (cellsX X0) 32)))
          generalize World.alloc y2 _ = y3 at *
          generalize y2.heap.size = LC at *
          refine wpAnyH_ready (rs := [6]) (by kernel_rfl) (by simp) ?_
          refine AllReadyH.cons rfl (fun K hK => ?_) AllReadyH.nil
          go_simp
          refine (c2.out _ hB.out).mono ?_
          rintro e y4 ⟨rfl, bl⟩
          replace hX := hide (hX.out.on bl)
          replace hA := hide (hA.out.on bl)
          replace hC := hide (hC.out.on bl)
          replace hB := hide (onto hB.out (Nat.le_refl _) bl)
          go_wp2_with fail
          refine hK.out _ _ (hHeld.on bl) (fun hHeld => ?_)
          clear hK K
          try simp only [Act.put, List.setIfInBounds_toArray, List.set_cons_zero, List.set_cons_succ]
          clear bl
          refine wpAnyH_ready (rs := [9]) (by kernel_rfl) (by simp) ?_
          refine AllReadyH.cons rfl (fun K hK => ?_) AllReadyH.nil
          have hst := store_part _ LA 0 (cellsX F1) hA.out.1 (by rw [hA.out.2.1, s6]; exact q4 _) (s8 _)
          rw [hA.out.2.1, q6] at hst
          go_simp
          refine hK.out _ _ (hHeld.far LA (cellsX F1) (by omega)) (fun hHeld => ?_)
          clear hK K
          try simp only [Act.put, List.setIfInBounds_toArray, List.set_cons_zero, List.set_cons_succ]
          replace hA := hide (hA.out.set (cellsX F1))
          replace hX := hide (hX.out.far LA (cellsX F1) (by omega))
          replace hC := hide (hC.out.far LA (cellsX F1) (by omega))
          replace hB := hide (below_setRow (g := LA) hB.out (by omega) (cellsX F1))
          clear hst
          refine wpAnyH_ready (rs := [10]) (by kernel_rfl) (by simp) ?_
          refine AllReadyH.cons rfl (fun K hK => ?_) AllReadyH.nil
          have hst := store_part _ LC 0 (cellsX F2) hC.out.1 (by rw [hC.out.2.1, s6]; exact q4 _) (s8 _)
          rw [hC.out.2.1, q6] at hst
          go_simp
          refine hK.out _ _ (hHeld.far LC (cellsX F2) (by omega)) (fun hHeld => ?_)
          clear hK K
          try simp only [Act.put, List.setIfInBounds_toArray, List.set_cons_zero, List.set_cons_succ]
          replace hC := hide (hC.out.set (cellsX F2))
          replace hX := hide (hX.out.far LC (cellsX F2) (by omega))
          replace hA := hide (hA.out.far LC (cellsX F2) (by omega))
          replace hB := hide (below_setRow (g := LC) hB.out (by omega) (cellsX F2))
          clear hst
          refine wpAnyH_done (by kernel_rfl) ?_ _
          go_wp2_with fail
          go_meet
          case rel => exact ⟨_, _, rfl, rfl, hide ⟨hX.out, hA.out, hC.out, hB.out⟩⟩
        refine AllReadyH.cons rfl (fun K hK => ?_) AllReadyH.nil
        have nChX := hX.out.2.2
        have nChA := hA.out.2.2
        go_simp
        refine hK.out _ _ (hHeld.on (grow y1 _)) (fun hHeld => ?_)
        clear hK K
        try simp only [Act.put, List.setIfInBounds_toArray, List.set_cons_zero, List.set_cons_succ]
        have hC := hide (Box.new y1 (cellsX X0) 32)
        replace hX := hide (hX.out.on (grow y1 (.cells (cellsX X0) 32)))
        replace hA := hide (hA.out.on (grow y1 (.cells (cellsX X0) 32)))
        replace hB := hide (onto hB.out (Nat.le_refl _) (grow y1 (.cells (cellsX X0) 32)))
        generalize World.alloc y1 _ = y2 at *
        generalize y1.heap.size = LC at *
        refine wpAnyH_ready (rs := [2]) (by kernel_rfl) (by simp) ?_
        refine AllReadyH.cons rfl (fun K hK => ?_) AllReadyH.nil
        go_simp
        refine (c1.out _ hB.out).mono ?_
        rintro e y3 ⟨rfl, bl⟩
        replace hX := hide (hX.out.on bl)
        replace hA := hide (hA.out.on bl)
        replace hC := hide (hC.out.on bl)
        replace hB := hide (onto hB.out (Nat.le_refl _) bl)
        go_wp2_with fail
        refine hK.out _ _ (hHeld.on bl) (fun hHeld => ?_)
        clear hK K
        try simp only [Act.put, List.setIfInBounds_toArray, List.set_cons_zero, List.set_cons_succ]
        clear bl
        refine wpAnyH_ready (rs := [6]) (by kernel_rfl) (by simp) ?_
        refine AllReadyH.cons rfl (fun K hK => ?_) AllReadyH.nil
        go_simp
        refine (c2.out _ hB.out).mono ?_
        rintro e y4 ⟨rfl, bl⟩
        replace hX := hide (hX.out.on bl)
        replace hA := hide (hA.out.on bl)
        replace hC := hide (hC.out.on bl)
        replace hB := hide (onto hB.out (Nat.le_refl _) bl)
        go_wp2_with fail
        refine hK.out _ _ (hHeld.on bl) (fun hHeld => ?_)
        clear hK K
        try simp only [Act.put, List.setIfInBounds_toArray, List.set_cons_zero, List.set_cons_succ]
        clear bl
        refine wpAnyH_ready (rs := [9]) (by kernel_rfl) (by simp) ?_
        refine AllReadyH.cons rfl (fun K hK => ?_) AllReadyH.nil
        have hst := store_part _ LA 0 (cellsX F1) hA.out.1 (by rw [hA.out.2.1, s6]; exact q4 _) (s8 _)
        rw [hA.out.2.1, q6] at hst
        go_simp
        refine hK.out _ _ (hHeld.far LA (cellsX F1) (by omega)) (fun hHeld => ?_)
        clear hK K
        try simp only [Act.put, List.setIfInBounds_toArray, List.set_cons_zero, List.set_cons_succ]
        replace hA := hide (hA.out.set (cellsX F1))
        replace hX := hide (hX.out.far LA (cellsX F1) (by omega))
        replace hC := hide (hC.out.far LA (cellsX F1) (by omega))
        replace hB := hide (below_setRow (g := LA) hB.out (by omega) (cellsX F1))
        clear hst
        refine wpAnyH_ready (rs := [10]) (by kernel_rfl) (by simp) ?_
        refine AllReadyH.cons rfl (fun K hK => ?_) AllReadyH.nil
        have hst := store_part _ LC 0 (cellsX F2) hC.out.1 (by rw [hC.out.2.1, s6]; exact q4 _) (s8 _)
        rw [hC.out.2.1, q6] at hst
        go_simp
        refine hK.out _ _ (hHeld.far LC (cellsX F2) (by omega)) (fun hHeld => ?_)
        clear hK K
        try simp only [Act.put, List.setIfInBounds_toArray, List.set_cons_zero, List.set_cons_succ]
        replace hC := hide (hC.out.set (cellsX F2))
        replace hX := hide (hX.out.far LC (cellsX F2) (by omega))
        replace hA := hide (hA.out.far LC (cellsX F2) (by omega))
        replace hB := hide (below_setRow (g := LC) hB.out (by omega) (cellsX F2))
        clear hst
        refine wpAnyH_done (by kernel_rfl) ?_ _
        go_wp2_with fail
        go_meet
        case rel => exact ⟨_, _, rfl, rfl, hide ⟨hX.out, hA.out, hC.out, hB.out⟩⟩
      refine AllReadyH.cons rfl (fun K hK => ?_) AllReadyH.nil
      have nChX := hX.out.2.2
      go_simp
      refine hK.out _ _ (hHeld.on (grow y0 _)) (fun hHeld => ?_)
      clear hK K
      try simp only [Act.put, List.setIfInBounds_toArray, List.set_cons_zero, List.set_cons_succ]
      have hC := hide (Box.new y0 (cellsX X0) 32)
      replace hX := hide (hX.out.on (grow y0 (.cells (cellsX X0) 32)))
      replace hB := hide (onto hB.out (Nat.le_refl _) (grow y0 (.cells (cellsX X0) 32)))
      generalize World.alloc y0 _ = y1 at *
      generalize y0.heap.size = LC at *
      refine wpAnyH_ready (rs := [2, 7]) (by kernel_rfl) (by simp) ?_
      refine AllReadyH.cons rfl (fun K hK => ?_) ?_
      · go_simp
        refine (c1.out _ hB.out).mono ?_
        rintro e y2 ⟨rfl, bl⟩
        replace hX := hide (hX.out.on bl)
        replace hC := hide (hC.out.on bl)
        replace hB := hide (onto hB.out (Nat.le_refl _) bl)
        go_wp2_with fail
        refine hK.out _ _ (hHeld.on bl) (fun hHeld => ?_)
        clear hK K
        try simp only [Act.put, List.setIfInBounds_toArray, List.set_cons_zero, List.set_cons_succ]
        clear bl
        refine wpAnyH_ready (rs := [6, 7]) (by kernel_rfl) (by simp) ?_
        refine AllReadyH.cons rfl (fun K hK => ?_) ?_
        · go_simp
          refine (c2.out _ hB.out).mono ?_
          rintro e y3 ⟨rfl, bl⟩
          replace hX := hide (hX.out.on bl)
          replace hC := hide (hC.out.on bl)
          replace hB := hide (onto hB.out (Nat.le_refl _) bl)
          go_wp2_with fail
          refine hK.out _ _ (hHeld.on bl) (fun hHeld => ?_)
          clear hK K
          try simp only [Act.put, List.setIfInBounds_toArray, List.set_cons_zero, List.set_cons_succ]
          clear bl
          refine wpAnyH_ready (rs := [7]) (by kernel_rfl) (by simp) ?_
          refine AllReadyH.cons rfl (fun K hK => ?_) AllReadyH.nil
          have nAhX := hX.out.2.2
          have nAhC := hC.out.2.2
          go_simp
          refine hK.out _ _ (hHeld.on (grow y3 _)) (fun hHeld => ?_)
          clear hK K
          try simp only [Act.put, List.setIfInBounds_toArray, List.set_cons_zero, List.set_cons_succ]
          have hA := hide (Box.new y3 (cellsX X0) 32)
          replace hX := hide (hX.out.on (grow y3 (.cells (cellsX X0) 32)))
          replace hC := hide (hC.out.on (grow y3 (.cells (cellsX X0) 32)))
          replace hB := hide (onto hB.out (Nat.le_refl _) (grow y3 (.cells (cellsX X0) 32)))
          generalize World.alloc y3 _ = y4 at *
          generalize y3.heap.size = LA at *
          refine wpAnyH_ready (rs := [9]) (by kernel_rfl) (by simp) ?_
          refine AllReadyH.cons rfl (fun K hK => ?_) AllReadyH.nil
          have hst := store_part _ LA 0 (cellsX F1) hA.out.1 (by rw [hA.out.2.1, s6]; exact q4 _) (s8 _)
          rw [hA.out.2.1, q6] at hst
          go_simp
          refine hK.out _ _ (hHeld.far LA (cellsX F1) (by omega)) (fun hHeld => ?_)
          clear hK K
          try simp only [Act.put, List.setIfInBounds_toArray, List.set_cons_zero, List.set_cons_succ]
          replace hA := hide (hA.out.set (cellsX F1))
          replace hX := hide (hX.out.far LA (cellsX F1) (by omega))
          replace hC := hide (hC.out.far LA (cellsX F1) (by omega))
          replace hB := hide (below_setRow (g := LA) hB.out (by omega) (cellsX F1))
          clear hst
          refine wpAnyH_ready (rs := [10]) (by kernel_rfl) (by simp) ?_
          refine AllReadyH.cons rfl (fun K hK => ?_) AllReadyH.nil
          have hst := store_part _ LC 0 (cellsX F2) hC.out.1 (by rw [hC.out.2.1, s6]; exact q4 _) (s8 _)
          rw [hC.out.2.1, q6] at hst
          go_simp
          refine hK.out _ _ (hHeld.far LC (cellsX F2) (by omega)) (fun hHeld => ?_)
          clear hK K
          try simp only [Act.put, List.setIfInBounds_toArray, List.set_cons_zero, List.set_cons_succ]
          replace hC := hide (hC.out.set (cellsX F2))
          replace hX := hide (hX.out.far LC (cellsX F2) (by omega))
          replace hA := hide (hA.out.far LC (cellsX F2) (by omega))
          replace hB := hide (below_setRow (g := LC) hB.out (by omega) (cellsX F2))
          clear hst
          refine wpAnyH_done (by kernel_rfl) ?_ _
          go_wp2_with fail
          go_meet
          case rel => exact ⟨_, _, rfl, rfl, hide ⟨hX.out, hA.out, hC.out, hB.out⟩⟩
        refine AllReadyH.cons rfl (fun K hK => ?_) AllReadyH.nil
        have nAhX := hX.out.2.2
        have nAhC := hC.out.2.2
        go_simp
        refine hK.out _ _ (hHeld.on (grow y2 _)) (fun hHeld => ?_)
        clear hK K
        try simp only [Act.put, List.setIfInBounds_toArray, List.set_cons_zero, List.set_cons_succ]
        have hA := hide (Box.new y2 (cellsX X0) 32)
        replace hX := hide (hX.out.on (grow y2 (.cells (cellsX X0) 32)))
        replace hC := hide (hC.out.on (grow y2 (.cells (cellsX X0) 32)))
        replace hB := hide (onto hB.out (Nat.le_refl _) (grow y2 (.cells (cellsX X0) 32)))
        generalize World.alloc y2 _ = y3 at *
        generalize y2.heap.size = LA at *
        refine wpAnyH_ready (rs := [6]) (by kernel_rfl) (by simp) ?_
        refine AllReadyH.cons rfl (fun K hK => ?_) AllReadyH.nil
        go_simp
        refine (c2.out _ hB.out).mono ?_
        rintro e y4 ⟨rfl, bl⟩
        replace hX := hide (hX.out.on bl)
        replace hA := hide (hA.out.on bl)
        replace hC := hide (hC.out.on bl)
        replace hB := hide (onto hB.out (Nat.le_refl _) bl)
        go_wp2_with fail
        refine hK.out _ _ (hHeld.on bl) (fun hHeld => ?_)
        clear hK K
        try simp only [Act.put, List.setIfInBounds_toArray, List.set_cons_zero, List.set_cons_succ]
        clear bl
        refine wpAnyH_ready (rs := [9]) (by kernel_rfl) (by simp) ?_
        refine AllReadyH.cons rfl (fun K hK => ?_) AllReadyH.nil
        have hst := store_part _ LA 0 (cellsX F1) hA.out.1 (by rw [hA.out.2.1, s6]; exact q4 _) (s8 _)
        rw [hA.out.2.1, q6] at hst
        go_simp
        refine hK.out _ _ (hHeld.far LA (cellsX F1) (by omega)) (fun hHeld => ?_)
        clear hK K
        try simp only [Act.put, List.setIfInBounds_toArray, List.set_cons_zero, List.set_cons_succ]
        replace hA := hide (hA.out.set (cellsX F1))
        replace hX := hide (hX.out.far LA (cellsX F1) (by omega))
        replace hC := hide (hC.out.far LA (cellsX F1) (by omega))
        replace hB := hide (below_setRow (g := LA) hB.out (by omega) (cellsX F1))
        clear hst
        refine wpAnyH_ready (rs := [10]) (by kernel_rfl) (by simp) ?_
        refine AllReadyH.cons rfl (fun K hK => ?_) AllReadyH.nil
        have hst := store_part _ LC 0 (cellsX F2) hC.out.1 (by rw [hC.out.2.1, s6]; exact q4 _) (s8 _)
        rw [hC.out.2.1, q6] at hst
        go_simp
        refine hK.out _ _ (hHeld.far LC (cellsX F2) (by omega)) (fun hHeld => ?_)
        clear hK K
        try simp only [Act.put, List.setIfInBounds_toArray, List.set_cons_zero, List.set_cons_succ]
        replace hC := hide (hC.out.set (cellsX F2))
        replace hX := hide (hX.out.far LC (cellsX F2) (by omega))
        replace hA := hide (hA.out.far LC (cellsX F2) (by omega))
        replace hB := hide (below_setRow (g := LC) hB.out (by omega) (cellsX F2))
        clear hst
        refine wpAnyH_done (by kernel_rfl) ?_ _
        go_wp2_with fail
        go_meet
        case rel => exact ⟨_, _, rfl, rfl, hide ⟨hX.out, hA.out, hC.out, hB.out⟩⟩
      refine AllReadyH.cons rfl (fun K hK => ?_) AllReadyH.nil
      have nAhX := hX.out.2.2
      have nAhC := hC.out.2.2
      go_simp
      refine hK.out _ _ (hHeld.on (grow y1 _)) (fun hHeld => ?_)
      clear hK K
      try simp only [Act.put, List.setIfInBounds_toArray, List.set_cons_zero, List.set_cons_succ]
      have hA := hide (Box.new y1 (cellsX X0) 32)
      replace hX := hide (hX.out.on (grow y1 (.cells (cellsX X0) 32)))
      replace hC := hide (hC.out.on (grow y1 (.cells (cellsX X0) 32)))
      replace hB := hide (onto hB.out (Nat.le_refl _) (grow y1 (.cells (cellsX X0) 32)))
      generalize World.alloc y1 _ = y2 at *
      generalize y1.heap.size = LA at *
      refine wpAnyH_ready (rs := [2]) (by kernel_rfl) (by simp) ?_
      refine AllReadyH.cons rfl (fun K hK => ?_) AllReadyH.nil
      go_simp
      refine (c1.out _ hB.out).mono ?_
      rintro e y3 ⟨rfl, bl⟩
      replace hX := hide (hX.out.on bl)
      replace hA := hide (hA.out.on bl)
      replace hC := hide (hC.out.on bl)
      replace hB := hide (onto hB.out (Nat.le_refl _) bl)
      go_wp2_with fail
      refine hK.out _ _ (hHeld.on bl) (fun hHeld => ?_)
      clear hK K
      try simp only [Act.put, List.setIfInBounds_toArray, List.set_cons_zero, List.set_cons_succ]
      clear bl
      refine wpAnyH_ready (rs := [6]) (by kernel_rfl) (by simp) ?_
      refine AllReadyH.cons rfl (fun K hK => ?_) AllReadyH.nil
      go_simp
      refine (c2.out _ hB.out).mono ?_
      rintro e y4 ⟨rfl, bl⟩
      replace hX := hide (hX.out.on bl)
      replace hA := hide (hA.out.on bl)
      replace hC := hide (hC.out.on bl)
      replace hB := hide (onto hB.out (Nat.le_refl _) bl)
      go_wp2_with fail
      refine hK.out _ _ (hHeld.on bl) (fun hHeld => ?_)
      clear hK K
      try simp only [Act.put, List.setIfInBounds_toArray, List.set_cons_zero, List.set_cons_succ]
      clear bl
      refine wpAnyH_ready (rs := [9]) (by kernel_rfl) (by simp) ?_
      refine AllReadyH.cons rfl (fun K hK => ?_) AllReadyH.nil
      have hst := store_part _ LA 0 (cellsX F1) hA.out.1 (by rw [hA.out.2.1, s6]; exact q4 _) (s8 _)
      rw [hA.out.2.1, q6] at hst
      go_simp
      refine hK.out _ _ (hHeld.far LA (cellsX F1) (by omega)) (fun hHeld => ?_)
      clear hK K
      try simp only [Act.put, List.setIfInBounds_toArray, List.set_cons_zero, List.set_cons_succ]
      replace hA := hide (hA.out.set (cellsX F1))
      replace hX := hide (hX.out.far LA (cellsX F1) (by omega))
      replace hC := hide (hC.out.far LA (cellsX F1) (by omega))
      replace hB := hide (below_setRow (g := LA) hB.out (by omega) (cellsX F1))
      clear hst
      refine wpAnyH_ready (rs := [10]) (by kernel_rfl) (by simp) ?_
      refine AllReadyH.cons rfl (fun K hK => ?_) AllReadyH.nil
      have hst := store_part _ LC 0 (cellsX F2) hC.out.1 (by rw [hC.out.2.1, s6]; exact q4 _) (s8 _)
      rw [hC.out.2.1, q6] at hst
      go_simp
      refine hK.out _ _ (hHeld.far LC (cellsX F2) (by omega)) (fun hHeld => ?_)
      clear hK K
      try simp only [Act.put, List.setIfInBounds_toArray, List.set_cons_zero, List.set_cons_succ]
      replace hC := hide (hC.out.set (cellsX F2))
      replace hX := hide (hX.out.far LC (cellsX F2) (by omega))
      replace hA := hide (hA.out.far LC (cellsX F2) (by omega))
      replace hB := hide (below_setRow (g := LC) hB.out (by omega) (cellsX F2))
      clear hst
      refine wpAnyH_done (by kernel_rfl) ?_ _
      go_wp2_with fail
      go_meet
      case rel => exact ⟨_, _, rfl, rfl, hide ⟨hX.out, hA.out, hC.out, hB.out⟩⟩
    case rest => as_aux_lemma =>
      obtain ⟨LA, LC, rfl, rfl, hH⟩ := hcut
      have hB' := hide hH.out.2.2.2
      clear hX hB c1 c2
      go_wp2_with fail
      refine (c3.out _ hB'.out).mono ?_
      rintro e x1 ⟨rfl, h1⟩
      have hB1 := hide (onto hB'.out (Nat.le_refl _) h1)
      have hH1 := hide (And.intro (hH.out.1.on h1) (And.intro (hH.out.2.1.on h1) (hH.out.2.2.1.on h1)))
      clear hB' hH h1 c3
      cases B
      · clear c4 c5
        go_wp2_with fail
        refine (cf.out _ hB1.out).mono ?_
        rintro e x2 ⟨rfl, h2⟩
        have hB2 := onto hB1.out (Nat.le_refl _) h2
        clear hB1 hH1 h2
        go_wp2
        go_ret
        exact ⟨rfl, hB2⟩
      · obtain ⟨hr, hhr⟩ : ∃ l : List (Nat × (Nat → Int)), l = [(w.heap.size, R), (LA, F1), (LC, F2)] := ⟨_, rfl⟩
        have hS : Hid ((∀ p ∈ hr, Box x1.drew p.1 (cellsX p.2)) ∧ (∀ p ∈ ([] : List (Value × List Mi)), IsOps x1.drew p.1 p.2) ∧ De.Tabs x1.drew ∧ Below w.heap.size w x1.drew) := hide (by
          refine ⟨fun p hp => ?_, fun p hp => by simp at hp, (tb.out.on hB1.out).drew, hB1.out.drew⟩
          rw [hhr] at hp; simp only [List.mem_cons, List.not_mem_nil, or_false] at hp
          rcases hp with rfl | rfl | rfl
          · exact hH1.out.1.drew
          · exact hH1.out.2.1.drew
          · exact hH1.out.2.2.drew)
        obtain ⟨rd1, -⟩ := Held.reads (w := w) (l := hr) (o := []) (b := w.heap.size) (R := R) (by rw [hhr]; simp)
        obtain ⟨rd2, -⟩ := Held.reads (w := w) (l := hr) (o := []) (b := LA) (R := F1) (by rw [hhr]; simp)
        obtain ⟨rd3, -⟩ := Held.reads (w := w) (l := hr) (o := []) (b := LC) (R := F2) (by rw [hhr]; simp)
        have d4 := hide (c4.out rfl)
        have d5 := hide (c5.out rfl)
        have hnX := eqlX
        replace rd1 := hide rd1
        replace rd2 := hide rd2
        replace rd3 := hide rd3
        replace hnX := hide hnX
        clear hhr hH1 hB1 c4 c5
        go_wp2_with fail
        refine region_calm (fun x => ∃ y : Held w hr [], x = y.x) (by kernel_rfl) (by kernel_rfl) ⟨⟨_, hS.out⟩, rfl⟩ ?_
        replace rd1 := rd1.out
        replace rd2 := rd2.out
        replace rd3 := rd3.out
        replace hnX := hnX.out
        repeat (go_big_quiet_step (first
          | with_reducible rfl
          | (go_at_call 12; with_reducible refine (cf.out _ (Held.h _).2.2.2).mono ?_; rintro e wf ⟨rfl, bf⟩; exact ⟨rfl, Held.on _ bf, rfl⟩)
          | (go_at_call 17; with_reducible refine (d4.out _ (Held.h _).2.2.2).mono ?_; rintro e wf ⟨rfl, bf⟩; exact ⟨rfl, Held.on _ bf, rfl⟩)
          | (go_at_call 17; with_reducible refine (d5.out _ (Held.h _).2.2.2).mono ?_; rintro e wf ⟨rfl, bf⟩; exact ⟨rfl, Held.on _ bf, rfl⟩)))
        refine wpQuiet_nil ?_
        rintro _ ⟨y, rfl⟩
        clear d4 d5 rd1 rd2 rd3 hnX cf
        go_wp2
        go_ret
        exact ⟨rfl, y.h.2.2.2⟩

theorem runs_walk (w : World) (v : Value) (l : List Mi) (hl : IsOps w v l) (hw : WordsM l) (hc : CapOk v) (R : Nat → Int) (hR : ∀ k, Cp.W32 (R k)) (cnt : Int) (hcnt : (Lit.int .i64 cnt).wf = true) (tb : De.Tabs w) :
    Calls Tryd.prog 5 #[v, .agg (cellsX R), .int .i64 cnt] w fun e w' => e = .returned (.bool true) ∧ Below w.heap.size w w' := by
  obtain ⟨ad, n, c, rfl, hnc, h⟩ := cut_ops hl hw hc 20
  rcases h with ⟨hn, h, hw'⟩ | ⟨hn, h, hw'⟩
  · exact runs_cut tb hnc (Or.inl ⟨hn, rfl⟩) h hw' R hR cnt
  · exact runs_cut tb hnc (Or.inr ⟨hn, rfl⟩) h hw' R hR cnt

end Go.Proofs.YtfnmihjchlljbaaDoor.Ir
