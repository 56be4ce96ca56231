/- Each pass alone, and one behind another one, does to any registers what was done without. -/
import Derived.Test.YtnbflahggpehpaaQOpSameW
namespace Go.Proofs.Ytnbflahggpehpaa.Ir
open Go.RowKit
set_option linter.unusedVariables false
set_option maxRecDepth 100000
set_option linter.unusedSimpArgs false

set_option maxHeartbeats 8000000 in
theorem each_cut {w : World} {ad : Option Addr} {n c K : Nat} {l : List Mi} (hnc : n ≤ c) (hK : (n ≤ 16 ∧ K = n) ∨ (16 < n ∧ K = 16)) (h : IsOps w (.slice ad K c) l) (hw : WordsM l) (hl : l.length ≤ 16) (R : Nat → Int) (hR : ∀ k, Cp.W32 (R k)) :
    Calls Try.prog 8 #[.slice ad n c, .agg (cellsX R)] w fun e w' => e = .returned (.bool true) ∧ Below w.heap.size w w' := by
  obtain ⟨r1, r2, r3, r4, r5, r6, r7, r8, r9⟩ := rowRules
  obtain ⟨s1, s2, s3, s4, s5, s6, s7, s8, s9, s10⟩ := irSizes
  obtain ⟨q1, q2, q3, q4, q5, q6⟩ := irWhole
  have x0 := Box.new w (cellsX R) 36
  have g0 := grow w (.cells (cellsX R) 36)
  have o0 := h.on g0
  have cm := hide (lmay_any hnc hK o0)
  replace x0 := hide x0
  replace g0 := hide g0
  replace o0 := hide o0
  clear h hK
  go_enter Try.func8, Try.ntmps8
  go_wp2_with fail
  generalize World.alloc w _ = W0 at *
  refine cm.out.mono ?_
  rintro e w1 ⟨rfl, h1⟩
  have x1 := x0.out.on h1
  have b1 := hide (onto g0.out (Nat.le_refl _) h1)
  have o1 := o0.out.on h1
  have cf := hide (fixed_any w1)
  by_cases hm : mayB l = true
  · rw [hm]
    have cr := hide (run_any o1 hw R hR)
    have ld := x1.loads 0 N32 (q4 _) (q5 _)
    replace o1 := hide o1
    replace x1 := hide x1
    obtain ⟨G, hG⟩ : ∃ G, untilV 9223372036854775807 l (putR R 0 0) = G := ⟨_, rfl⟩
    rw [hG] at cr
    replace hG := hide hG
    replace hm := hide hm
    clear cm x0 g0 o0 h1 cf
    go_wp2_with fail
    refine cr.out.mono ?_
    rintro e w2 ⟨rfl, h2⟩
    have x2 := x1.out.on h2
    have b2 := onto b1.out (Nat.le_refl _) h2
    have o2 := o1.out.on h2
    have y3 := Box.new w2 (cellsX G) 36
    have g3 := grow w2 (.cells (cellsX G) 36)
    have x3 := hide (x2.on g3)
    have b3 := hide (onto b2 (Nat.le_refl _) g3)
    have o3 := hide (o2.on g3)
    have cc := hide (copy_any (o2.on g3) hl)
    replace y3 := hide y3
    clear cr x1 b1 o1 h2 x2 b2 o2 g3 ld
    go_wp2_with fail
    generalize w2.heap.size = LG at *
    generalize World.alloc w2 _ = W3 at *
    refine cc.out.mono ?_
    rintro e w4 ⟨va, rfl, hoa, h4⟩
    have oa := ops_of_own (l := copyV l) (by rw [copy_len]; exact hoa)
    have o4 := o3.out.on h4
    have x4 := hide (x3.out.on h4)
    have y4 := hide (y3.out.on h4)
    have b4 := hide (onto b3.out (Nat.le_refl _) h4)
    have cc2 := hide (fold_any o4 hl hw)
    replace oa := hide oa
    replace o4 := hide o4
    clear cc x3 y3 b3 o3 hoa h4
    go_wp2_with fail
    refine cc2.out.mono ?_
    rintro e w5 ⟨vb, rfl, hob, h5⟩
    have ob := ops_of_own (l := foldV l) (by rw [fold_len]; exact hob)
    have o5 := o4.out.on h5
    have oa5 := hide (oa.out.on h5)
    have x5 := hide (x4.out.on h5)
    have y5 := hide (y4.out.on h5)
    have b5 := hide (onto b4.out (Nat.le_refl _) h5)
    have cc3 := hide (dead_any o5 hl)
    replace ob := hide ob
    replace o5 := hide o5
    clear cc2 x4 y4 b4 o4 oa hob h5
    go_wp2_with fail
    refine cc3.out.mono ?_
    rintro e w6 ⟨vc, rfl, hoc, h6⟩
    have oc := ops_of_own (l := deadV l) hoc
    have o6 := o5.out.on h6
    have oa6 := oa5.out.on h6
    have ob6 := ob.out.on h6
    have x6 := x5.out.on h6
    have y6 := y5.out.on h6
    have b6 := onto b5.out (Nat.le_refl _) h6
    have ga := good_copy l
    have gb := good_fold l hw
    have gc := good_dead l
    have R0w := putR_w hR Cp.w0 0
    have ua := (ga.until hm.out (putR R 0 0) (put0 R) R0w).trans hG.out
    have ub := (gb.until hm.out (putR R 0 0) (put0 R) R0w).trans hG.out
    have uc := (gc.until hm.out (putR R 0 0) (put0 R) R0w).trans hG.out
    obtain ⟨hr, hhr⟩ : ∃ hr, hr = [(w.heap.size, R), (LG, G)] := ⟨_, rfl⟩
    obtain ⟨ho, hho⟩ : ∃ ho, ho = [(va, copyV l), (vb, foldV l), (vc, deadV l), (Value.slice ad K c, l)] := ⟨_, rfl⟩
    have hS : (∀ p ∈ hr, Box w6.drew p.1 (cellsX p.2)) ∧ (∀ p ∈ ho, IsOps w6.drew p.1 p.2) ∧ Below w.heap.size w w6.drew := by
      refine ⟨fun p hp => ?_, fun p hp => ?_, b6.drew⟩
      · rw [hhr] at hp; simp at hp; rcases hp with rfl | rfl
        · exact x6
        · exact y6
      · rw [hho] at hp; simp at hp; rcases hp with rfl | rfl | rfl | rfl
        · exact oa6.on (Below.refl _ w6).drew
        · exact ob6.on (Below.refl _ w6).drew
        · exact oc.on (Below.refl _ w6).drew
        · exact o6.on (Below.refl _ w6).drew
    obtain ⟨rd, rc⟩ := Held.reads (w := w) (l := hr) (o := ho) (b := w.heap.size) (R := R) (by rw [hhr]; simp)
    obtain ⟨rd2, rc2⟩ := Held.reads (w := w) (l := hr) (o := ho) (b := LG) (R := G) (by rw [hhr]; simp)
    have u1 := Held.ops (w := w) (l := hr) (o := ho) (v := va) (ms := copyV l) (by rw [hho]; simp)
    have u2 := Held.ops (w := w) (l := hr) (o := ho) (v := vb) (ms := foldV l) (by rw [hho]; simp)
    have u3 := Held.ops (w := w) (l := hr) (o := ho) (v := vc) (ms := deadV l) (by rw [hho]; simp)
    have c1' := hide (fun y : Held w hr ho => run_any (u1 y) (ga.words hw) R hR)
    have c2' := hide (fun y : Held w hr ho => run_any (u2 y) (gb.words hw) R hR)
    have c3' := hide (fun y : Held w hr ho => run_any (u3 y) (gc.words hw) R hR)
    rw [ua] at c1'
    rw [ub] at c2'
    rw [uc] at c3'
    have eG := eqlX G
    have nG := neqX G
    replace hS := hide hS
    replace rd := hide rd
    replace rd2 := hide rd2
    replace ga := hide ga
    replace gb := hide gb
    replace u1 := hide u1
    replace u2 := hide u2
    have u4 := hide (Held.ops (w := w) (l := hr) (o := ho) (v := .slice ad K c) (ms := l) (by rw [hho]; simp))
    have hx1 : Hid ((w.heap.size, R) ∈ hr) := hide (by rw [hhr]; simp)
    have hx2 : Hid ((LG, G) ∈ hr) := hide (by rw [hhr]; simp)
    replace R0w := hide R0w
    clear cc3 x5 y5 b5 o5 oa5 ob hoc h6 oc o6 oa6 ob6 x6 y6 b6 gc ua ub uc rc rc2 u3 hhr hho
    go_wp2_with fail
    refine region_calm (fun x => ∃ y : Held w hr ho, x = y.x) (by kernel_rfl) (by kernel_rfl) ⟨⟨_, hS.out⟩, rfl⟩ ?_
    replace rd := rd.out
    replace rd2 := rd2.out
    repeat (go_big_quiet_step (first
      | with_reducible rfl
      | (go_at_call 20; with_reducible refine (c1'.out _).mono ?_; rintro e wf ⟨rfl, bf⟩; exact ⟨rfl, Held.on _ bf, rfl⟩)
      | (go_at_call 20; with_reducible refine (c2'.out _).mono ?_; rintro e wf ⟨rfl, bf⟩; exact ⟨rfl, Held.on _ bf, rfl⟩)
      | (go_at_call 20; with_reducible refine (c3'.out _).mono ?_; rintro e wf ⟨rfl, bf⟩; exact ⟨rfl, Held.on _ bf, rfl⟩)))
    refine wpQuiet_nil ?_
    rintro _ ⟨y, rfl⟩
    have oA := hide ((u1.out y).on (Below.refl _ y.x).drew)
    have oB := hide ((u2.out y).on (Below.refl _ y.x).drew)
    obtain ⟨a1, n1, k1, rfl, hn1, -, -⟩ := oA.out.open'
    obtain ⟨a2, n2, k2, rfl, hn2, -, -⟩ := oB.out.open'
    have hKl : K = l.length := by rw [← cut_len (u4.out y)]
    obtain rfl : n1 = K := by rw [hn1, hKl, copy_len]
    obtain rfl : n2 = n1 := by rw [hn2, hKl, fold_len]
    have bY := hide y.h.2.2.drew
    have hX := hide (y.h.1 _ hx1.out)
    have hZ := hide (y.h.1 _ hx2.out)
    have lA : (copyV l).length ≤ 16 := by rw [copy_len]; exact hl
    have lA2 : (foldV (copyV l)).length ≤ 16 := by rw [fold_len]; exact lA
    have lB : (foldV l).length ≤ 16 := by rw [fold_len]; exact hl
    have lB2 : (deadV (foldV l)).length ≤ 16 := Nat.le_trans (dead_len _) lB
    have g1 := ga.out.trans (good_fold _ (ga.out.words hw))
    have g2 := g1.trans (good_copy _)
    have g3 := gb.out.trans (good_dead _)
    have g4 := g3.trans (good_dead _)
    have wA := g2.words hw
    have wB := g4.words hw
    have uA := (g2.until hm.out (putR R 0 0) (put0 R) R0w.out).trans hG.out
    have uB := (g4.until hm.out (putR R 0 0) (put0 R) R0w.out).trans hG.out
    replace hn1 := hide hn1
    replace hn2 := hide hn2
    replace hKl := hide hKl
    clear g1 g2 g3 g4
    clear c1' c2' c3' rd rd2 nG
    go_wp2_with fail
    refine wp_region_held_drew (S := fun y => Box y w.heap.size (cellsX R) ∧ Box y LG (cellsX G)) (by kernel_rfl) ⟨hX.out, hZ.out⟩ (fun hHeld => ?_)
    -- 0: call
    refine wpAnyH_ready (rs := [0]) (by kernel_rfl) (by simp) ?_
    refine AllReadyH.cons (o := { dst := some 46, op := Op.call { callee := Callee.value (Operand.func 11), args := #[], argTypes := #[] }, type := 4, pos := "law.go:88", after := #[], guard := none }) rfl (fun K hK => ?_) AllReadyH.nil
    go_simp
    refine (fixed_any _).mono ?_
    rintro e Y0 ⟨rfl, k0⟩
    have oA0 := oA.out.on k0
    have oB0 := hide (oB.out.on k0)
    have b0 := onto bY.out (Nat.le_refl _) k0
    replace oA0 := hide oA0
    replace b0 := hide b0
    go_wp2_with fail
    refine hK.out _ _ ⟨hHeld.1.on k0, hHeld.2.on k0⟩ (fun hHeld => ?_)
    clear hK K
    try simp only [Act.put, List.setIfInBounds_toArray, List.set_cons_zero, List.set_cons_succ]
    -- 1: move
    refine wpAnyH_take (i := 1) (oi := { dst := some 47, op := Op.move (Operand.tmp 46), type := 4, pos := "law.go:88", after := #[{ on := 0, ground := Ground.data }, { on := 0, ground := Ground.chain }], guard := none }) (v := ?_) rfl (by kernel_rfl) (by kernel_rfl) (by kernel_rfl) (fun _ _ _ h => h) (Or.inl ⟨by rfl, ?_⟩) (by assumption) ?_
    rotate_left
    · intro y hSw
      obtain ⟨u1, u2⟩ := hSw; have v1 := u1.loads 0 N32 (q4 _) (q5 _); have v2 := u2.loads 0 N32 (q4 _) (q5 _)
      go_simp
      try with_reducible rfl
    try simp only [Act.put, List.setIfInBounds_toArray, List.set_cons_zero, List.set_cons_succ]
    -- 2: move
    refine wpAnyH_take (i := 2) (oi := { dst := some 48, op := Op.move (Operand.tmp 7), type := 22, pos := "law.go:88", after := #[{ on := 1, ground := Ground.guard }], guard := some (1, true) }) (v := ?_) rfl (by kernel_rfl) (by kernel_rfl) (by kernel_rfl) (fun _ _ _ h => h) (Or.inl ⟨by rfl, ?_⟩) (by assumption) ?_
    rotate_left
    · intro y hSw
      obtain ⟨u1, u2⟩ := hSw; have v1 := u1.loads 0 N32 (q4 _) (q5 _); have v2 := u2.loads 0 N32 (q4 _) (q5 _)
      go_simp
      try with_reducible rfl
    try simp only [Act.put, List.setIfInBounds_toArray, List.set_cons_zero, List.set_cons_succ]
    -- 5: load
    refine wpAnyH_take (i := 5) (oi := { dst := some 51, op := Op.load 36 (Operand.tmp 3), type := 36, pos := "law.go:88", after := #[{ on := 1, ground := Ground.guard }], guard := some (1, true) }) (v := ?_) rfl (by kernel_rfl) (by kernel_rfl) (by kernel_rfl) (fun _ _ _ h => h) (Or.inl ⟨by rfl, ?_⟩) (by assumption) ?_
    rotate_left
    · intro y hSw
      obtain ⟨u1, u2⟩ := hSw; have v1 := u1.loads 0 N32 (q4 _) (q5 _); have v2 := u2.loads 0 N32 (q4 _) (q5 _)
      go_simp
      try with_reducible rfl
    try simp only [Act.put, List.setIfInBounds_toArray, List.set_cons_zero, List.set_cons_succ]
    -- 7: load
    refine wpAnyH_take (i := 7) (oi := { dst := some 53, op := Op.load 36 (Operand.tmp 6), type := 36, pos := "law.go:88", after := #[{ on := 1, ground := Ground.guard }], guard := some (1, true) }) (v := ?_) rfl (by kernel_rfl) (by kernel_rfl) (by kernel_rfl) (fun _ _ _ h => h) (Or.inl ⟨by rfl, ?_⟩) (by assumption) ?_
    rotate_left
    · intro y hSw
      obtain ⟨u1, u2⟩ := hSw; have v1 := u1.loads 0 N32 (q4 _) (q5 _); have v2 := u2.loads 0 N32 (q4 _) (q5 _)
      go_simp
      try with_reducible rfl
    try simp only [Act.put, List.setIfInBounds_toArray, List.set_cons_zero, List.set_cons_succ]
    -- 3: call
    refine wpAnyH_ready (rs := [3]) (by kernel_rfl) (by simp) ?_
    refine AllReadyH.cons (o := { dst := some 49, op := Op.call { callee := Callee.value (Operand.func 14), args := #[Operand.tmp 48], argTypes := #[22] }, type := 22, pos := "law.go:88", after := #[{ on := 2, ground := Ground.data }, { on := 1, ground := Ground.chain }, { on := 1, ground := Ground.guard }], guard := some (1, true) }) rfl (fun K hK => ?_) AllReadyH.nil
    go_simp
    refine (fold_any oA0.out lA (ga.out.words hw)).mono ?_
    rintro e Y3 ⟨v3, rfl, ho3, k3⟩
    have o3 := hide (ops_of_own (l := foldV (copyV l)) (by rw [fold_len]; exact ho3))
    have oB3 := hide (oB0.out.on k3)
    have b3 := hide (onto b0.out (Nat.le_refl _) k3)
    go_wp2_with fail
    refine hK.out _ _ ⟨hHeld.1.on k3, hHeld.2.on k3⟩ (fun hHeld => ?_)
    clear hK K
    try simp only [Act.put, List.setIfInBounds_toArray, List.set_cons_zero, List.set_cons_succ]
    -- 4: call
    refine wpAnyH_ready (rs := [4]) (by kernel_rfl) (by simp) ?_
    refine AllReadyH.cons (o := { dst := some 50, op := Op.call { callee := Callee.value (Operand.func 10), args := #[Operand.tmp 49], argTypes := #[22] }, type := 22, pos := "law.go:88", after := #[{ on := 3, ground := Ground.data }, { on := 3, ground := Ground.chain }, { on := 1, ground := Ground.guard }], guard := some (1, true) }) rfl (fun K hK => ?_) AllReadyH.nil
    go_simp
    refine (copy_any o3.out lA2).mono ?_
    rintro e Y4 ⟨v4, rfl, ho4, k4⟩
    have o4 := hide (ops_of_own (l := copyV (foldV (copyV l))) (by rw [copy_len]; exact ho4))
    have oB4 := hide (oB3.out.on k4)
    have b4 := hide (onto b3.out (Nat.le_refl _) k4)
    go_wp2_with fail
    refine hK.out _ _ ⟨hHeld.1.on k4, hHeld.2.on k4⟩ (fun hHeld => ?_)
    clear hK K
    try simp only [Act.put, List.setIfInBounds_toArray, List.set_cons_zero, List.set_cons_succ]
    -- 6: call
    refine wpAnyH_ready (rs := [6]) (by kernel_rfl) (by simp) ?_
    refine AllReadyH.cons (o := { dst := some 52, op := Op.call { callee := Callee.value (Operand.func 20), args := #[Operand.tmp 50, Operand.tmp 51], argTypes := #[22, 36] }, type := 36, pos := "law.go:88", after := #[{ on := 4, ground := Ground.data }, { on := 5, ground := Ground.data }, { on := 4, ground := Ground.chain }, { on := 1, ground := Ground.guard }], guard := some (1, true) }) rfl (fun K hK => ?_) AllReadyH.nil
    go_simp
    refine (run_any o4.out wA R hR).mono ?_
    rintro e Y6 ⟨rfl, k6⟩
    rw [uA]
    have oB6 := hide (oB4.out.on k6)
    have b6 := hide (onto b4.out (Nat.le_refl _) k6)
    go_wp2_with fail
    refine hK.out _ _ ⟨hHeld.1.on k6, hHeld.2.on k6⟩ (fun hHeld => ?_)
    clear hK K
    try simp only [Act.put, List.setIfInBounds_toArray, List.set_cons_zero, List.set_cons_succ]
    -- 8: binOp
    refine wpAnyH_take (i := 8) (oi := { dst := some 54, op := Op.binOp BinOp.eql 36 (Operand.tmp 52) (Operand.tmp 53) 36, type := 4, pos := "law.go:88", after := #[{ on := 6, ground := Ground.data }, { on := 7, ground := Ground.data }, { on := 1, ground := Ground.guard }], guard := some (1, true) }) (v := ?_) rfl (by kernel_rfl) (by kernel_rfl) (by kernel_rfl) (fun _ _ _ h => h) (Or.inl ⟨by rfl, ?_⟩) (by assumption) ?_
    rotate_left
    · intro y hSw
      obtain ⟨u1, u2⟩ := hSw; have v1 := u1.loads 0 N32 (q4 _) (q5 _); have v2 := u2.loads 0 N32 (q4 _) (q5 _)
      go_simp
      try with_reducible rfl
    try simp only [Act.put, List.setIfInBounds_toArray, List.set_cons_zero, List.set_cons_succ]
    -- 9: pick
    refine wpAnyH_take (i := 9) (oi := { dst := some 55, op := Op.pick (Operand.tmp 47) (Operand.tmp 54) (Operand.const (Value.bool false)), type := 4, pos := "law.go:88", after := #[{ on := 1, ground := Ground.data }, { on := 8, ground := Ground.data }], guard := none }) (v := ?_) rfl (by kernel_rfl) (by kernel_rfl) (by kernel_rfl) (fun _ _ _ h => h) (Or.inl ⟨by rfl, ?_⟩) (by assumption) ?_
    rotate_left
    · intro y hSw
      obtain ⟨u1, u2⟩ := hSw; have v1 := u1.loads 0 N32 (q4 _) (q5 _); have v2 := u2.loads 0 N32 (q4 _) (q5 _)
      go_simp
      try with_reducible rfl
    try simp only [Act.put, List.setIfInBounds_toArray, List.set_cons_zero, List.set_cons_succ]
    -- 10: move
    refine wpAnyH_take (i := 10) (oi := { dst := some 56, op := Op.move (Operand.tmp 55), type := 4, pos := "law.go:88", after := #[{ on := 9, ground := Ground.data }, { on := 6, ground := Ground.chain }], guard := none }) (v := ?_) rfl (by kernel_rfl) (by kernel_rfl) (by kernel_rfl) (fun _ _ _ h => h) (Or.inl ⟨by rfl, ?_⟩) (by assumption) ?_
    rotate_left
    · intro y hSw
      obtain ⟨u1, u2⟩ := hSw; have v1 := u1.loads 0 N32 (q4 _) (q5 _); have v2 := u2.loads 0 N32 (q4 _) (q5 _)
      go_simp
      try with_reducible rfl
    try simp only [Act.put, List.setIfInBounds_toArray, List.set_cons_zero, List.set_cons_succ]
    -- 11: move
    refine wpAnyH_take (i := 11) (oi := { dst := some 57, op := Op.move (Operand.tmp 8), type := 22, pos := "law.go:88", after := #[{ on := 10, ground := Ground.guard }], guard := some (10, true) }) (v := ?_) rfl (by kernel_rfl) (by kernel_rfl) (by kernel_rfl) (fun _ _ _ h => h) (Or.inl ⟨by rfl, ?_⟩) (by assumption) ?_
    rotate_left
    · intro y hSw
      obtain ⟨u1, u2⟩ := hSw; have v1 := u1.loads 0 N32 (q4 _) (q5 _); have v2 := u2.loads 0 N32 (q4 _) (q5 _)
      go_simp
      try with_reducible rfl
    try simp only [Act.put, List.setIfInBounds_toArray, List.set_cons_zero, List.set_cons_succ]
    -- 14: load
    refine wpAnyH_take (i := 14) (oi := { dst := some 60, op := Op.load 36 (Operand.tmp 3), type := 36, pos := "law.go:88", after := #[{ on := 10, ground := Ground.guard }], guard := some (10, true) }) (v := ?_) rfl (by kernel_rfl) (by kernel_rfl) (by kernel_rfl) (fun _ _ _ h => h) (Or.inl ⟨by rfl, ?_⟩) (by assumption) ?_
    rotate_left
    · intro y hSw
      obtain ⟨u1, u2⟩ := hSw; have v1 := u1.loads 0 N32 (q4 _) (q5 _); have v2 := u2.loads 0 N32 (q4 _) (q5 _)
      go_simp
      try with_reducible rfl
    try simp only [Act.put, List.setIfInBounds_toArray, List.set_cons_zero, List.set_cons_succ]
    -- 16: load
    refine wpAnyH_take (i := 16) (oi := { dst := some 62, op := Op.load 36 (Operand.tmp 6), type := 36, pos := "law.go:88", after := #[{ on := 10, ground := Ground.guard }], guard := some (10, true) }) (v := ?_) rfl (by kernel_rfl) (by kernel_rfl) (by kernel_rfl) (fun _ _ _ h => h) (Or.inl ⟨by rfl, ?_⟩) (by assumption) ?_
    rotate_left
    · intro y hSw
      obtain ⟨u1, u2⟩ := hSw; have v1 := u1.loads 0 N32 (q4 _) (q5 _); have v2 := u2.loads 0 N32 (q4 _) (q5 _)
      go_simp
      try with_reducible rfl
    try simp only [Act.put, List.setIfInBounds_toArray, List.set_cons_zero, List.set_cons_succ]
    -- 12: call
    refine wpAnyH_ready (rs := [12]) (by kernel_rfl) (by simp) ?_
    refine AllReadyH.cons (o := { dst := some 58, op := Op.call { callee := Callee.value (Operand.func 16), args := #[Operand.tmp 57], argTypes := #[22] }, type := 22, pos := "law.go:88", after := #[{ on := 11, ground := Ground.data }, { on := 10, ground := Ground.chain }, { on := 10, ground := Ground.guard }], guard := some (10, true) }) rfl (fun K hK => ?_) AllReadyH.nil
    go_simp
    refine (dead_any oB6.out lB).mono ?_
    rintro e Y12 ⟨v12, rfl, ho12, k12⟩
    have o12 := hide (ops_of_own (l := deadV (foldV l)) ho12)
    have b12 := hide (onto b6.out (Nat.le_refl _) k12)
    go_wp2_with fail
    refine hK.out _ _ ⟨hHeld.1.on k12, hHeld.2.on k12⟩ (fun hHeld => ?_)
    clear hK K
    try simp only [Act.put, List.setIfInBounds_toArray, List.set_cons_zero, List.set_cons_succ]
    -- 13: call
    refine wpAnyH_ready (rs := [13]) (by kernel_rfl) (by simp) ?_
    refine AllReadyH.cons (o := { dst := some 59, op := Op.call { callee := Callee.value (Operand.func 16), args := #[Operand.tmp 58], argTypes := #[22] }, type := 22, pos := "law.go:88", after := #[{ on := 12, ground := Ground.data }, { on := 12, ground := Ground.chain }, { on := 10, ground := Ground.guard }], guard := some (10, true) }) rfl (fun K hK => ?_) AllReadyH.nil
    go_simp
    refine (dead_any o12.out lB2).mono ?_
    rintro e Y13 ⟨v13, rfl, ho13, k13⟩
    have o13 := hide (ops_of_own (l := deadV (deadV (foldV l))) ho13)
    have b13 := hide (onto b12.out (Nat.le_refl _) k13)
    go_wp2_with fail
    refine hK.out _ _ ⟨hHeld.1.on k13, hHeld.2.on k13⟩ (fun hHeld => ?_)
    clear hK K
    try simp only [Act.put, List.setIfInBounds_toArray, List.set_cons_zero, List.set_cons_succ]
    -- 15: call
    refine wpAnyH_ready (rs := [15]) (by kernel_rfl) (by simp) ?_
    refine AllReadyH.cons (o := { dst := some 61, op := Op.call { callee := Callee.value (Operand.func 20), args := #[Operand.tmp 59, Operand.tmp 60], argTypes := #[22, 36] }, type := 36, pos := "law.go:88", after := #[{ on := 13, ground := Ground.data }, { on := 14, ground := Ground.data }, { on := 13, ground := Ground.chain }, { on := 10, ground := Ground.guard }], guard := some (10, true) }) rfl (fun K hK => ?_) AllReadyH.nil
    go_simp
    refine (run_any o13.out wB R hR).mono ?_
    rintro e Y15 ⟨rfl, k15⟩
    rw [uB]
    have b15 := hide (onto b13.out (Nat.le_refl _) k15)
    go_wp2_with fail
    refine hK.out _ _ ⟨hHeld.1.on k15, hHeld.2.on k15⟩ (fun hHeld => ?_)
    clear hK K
    try simp only [Act.put, List.setIfInBounds_toArray, List.set_cons_zero, List.set_cons_succ]
    -- 17: binOp
    refine wpAnyH_take (i := 17) (oi := { dst := some 63, op := Op.binOp BinOp.eql 36 (Operand.tmp 61) (Operand.tmp 62) 36, type := 4, pos := "law.go:88", after := #[{ on := 15, ground := Ground.data }, { on := 16, ground := Ground.data }, { on := 10, ground := Ground.guard }], guard := some (10, true) }) (v := ?_) rfl (by kernel_rfl) (by kernel_rfl) (by kernel_rfl) (fun _ _ _ h => h) (Or.inl ⟨by rfl, ?_⟩) (by assumption) ?_
    rotate_left
    · intro y hSw
      obtain ⟨u1, u2⟩ := hSw; have v1 := u1.loads 0 N32 (q4 _) (q5 _); have v2 := u2.loads 0 N32 (q4 _) (q5 _)
      go_simp
      try with_reducible rfl
    try simp only [Act.put, List.setIfInBounds_toArray, List.set_cons_zero, List.set_cons_succ]
    -- 18: pick
    refine wpAnyH_take (i := 18) (oi := { dst := some 64, op := Op.pick (Operand.tmp 56) (Operand.tmp 63) (Operand.const (Value.bool false)), type := 4, pos := "law.go:88", after := #[{ on := 10, ground := Ground.data }, { on := 17, ground := Ground.data }], guard := none }) (v := ?_) rfl (by kernel_rfl) (by kernel_rfl) (by kernel_rfl) (fun _ _ _ h => h) (Or.inl ⟨by rfl, ?_⟩) (by assumption) ?_
    rotate_left
    · intro y hSw
      obtain ⟨u1, u2⟩ := hSw; have v1 := u1.loads 0 N32 (q4 _) (q5 _); have v2 := u2.loads 0 N32 (q4 _) (q5 _)
      go_simp
      try with_reducible rfl
    try simp only [Act.put, List.setIfInBounds_toArray, List.set_cons_zero, List.set_cons_succ]
    -- 19: move
    refine wpAnyH_take (i := 19) (oi := { dst := some 65, op := Op.move (Operand.tmp 64), type := 4, pos := "law.go:88", after := #[{ on := 18, ground := Ground.data }, { on := 15, ground := Ground.chain }], guard := none }) (v := ?_) rfl (by kernel_rfl) (by kernel_rfl) (by kernel_rfl) (fun _ _ _ h => h) (Or.inl ⟨by rfl, ?_⟩) (by assumption) ?_
    rotate_left
    · intro y hSw
      obtain ⟨u1, u2⟩ := hSw; have v1 := u1.loads 0 N32 (q4 _) (q5 _); have v2 := u2.loads 0 N32 (q4 _) (q5 _)
      go_simp
      try with_reducible rfl
    try simp only [Act.put, List.setIfInBounds_toArray, List.set_cons_zero, List.set_cons_succ]
    -- 20: move
    refine wpAnyH_take (i := 20) (oi := { dst := some 66, op := Op.move (Operand.tmp 7), type := 22, pos := "law.go:88", after := #[{ on := 19, ground := Ground.guard }], guard := some (19, true) }) (v := ?_) rfl (by kernel_rfl) (by kernel_rfl) (by kernel_rfl) (fun _ _ _ h => h) (Or.inl ⟨by rfl, ?_⟩) (by assumption) ?_
    rotate_left
    · intro y hSw
      obtain ⟨u1, u2⟩ := hSw; have v1 := u1.loads 0 N32 (q4 _) (q5 _); have v2 := u2.loads 0 N32 (q4 _) (q5 _)
      go_simp
      try with_reducible rfl
    try simp only [Act.put, List.setIfInBounds_toArray, List.set_cons_zero, List.set_cons_succ]
    -- 21: len
    refine wpAnyH_take (i := 21) (oi := { dst := some 67, op := Op.call { callee := Callee.builtin Builtin.len, args := #[Operand.tmp 66], argTypes := #[22] }, type := 3, pos := "law.go:88", after := #[{ on := 20, ground := Ground.data }, { on := 19, ground := Ground.guard }], guard := some (19, true) }) (v := ?_) rfl (by kernel_rfl) (by kernel_rfl) (by kernel_rfl) (fun _ _ _ h => h) (Or.inl ⟨by rfl, ?_⟩) (by assumption) ?_
    rotate_left
    · intro y hSw
      obtain ⟨u1, u2⟩ := hSw; have v1 := u1.loads 0 N32 (q4 _) (q5 _); have v2 := u2.loads 0 N32 (q4 _) (q5 _)
      go_simp
      try with_reducible rfl
    try simp only [Act.put, List.setIfInBounds_toArray, List.set_cons_zero, List.set_cons_succ]
    -- 22: move
    refine wpAnyH_take (i := 22) (oi := { dst := some 68, op := Op.move (Operand.tmp 0), type := 22, pos := "law.go:88", after := #[{ on := 19, ground := Ground.guard }], guard := some (19, true) }) (v := ?_) rfl (by kernel_rfl) (by kernel_rfl) (by kernel_rfl) (fun _ _ _ h => h) (Or.inl ⟨by rfl, ?_⟩) (by assumption) ?_
    rotate_left
    · intro y hSw
      obtain ⟨u1, u2⟩ := hSw; have v1 := u1.loads 0 N32 (q4 _) (q5 _); have v2 := u2.loads 0 N32 (q4 _) (q5 _)
      go_simp
      try with_reducible rfl
    try simp only [Act.put, List.setIfInBounds_toArray, List.set_cons_zero, List.set_cons_succ]
    -- 23: len
    refine wpAnyH_take (i := 23) (oi := { dst := some 69, op := Op.call { callee := Callee.builtin Builtin.len, args := #[Operand.tmp 68], argTypes := #[22] }, type := 3, pos := "law.go:88", after := #[{ on := 22, ground := Ground.data }, { on := 19, ground := Ground.guard }], guard := some (19, true) }) (v := ?_) rfl (by kernel_rfl) (by kernel_rfl) (by kernel_rfl) (fun _ _ _ h => h) (Or.inl ⟨by rfl, ?_⟩) (by assumption) ?_
    rotate_left
    · intro y hSw
      obtain ⟨u1, u2⟩ := hSw; have v1 := u1.loads 0 N32 (q4 _) (q5 _); have v2 := u2.loads 0 N32 (q4 _) (q5 _)
      go_simp
      try with_reducible rfl
    try simp only [Act.put, List.setIfInBounds_toArray, List.set_cons_zero, List.set_cons_succ]
    -- 24: binOp
    refine wpAnyH_take (i := 24) (oi := { dst := some 70, op := Op.binOp BinOp.eql 3 (Operand.tmp 67) (Operand.tmp 69) 3, type := 4, pos := "law.go:88", after := #[{ on := 21, ground := Ground.data }, { on := 23, ground := Ground.data }, { on := 19, ground := Ground.guard }], guard := some (19, true) }) (v := ?_) rfl (by kernel_rfl) (by kernel_rfl) (by kernel_rfl) (fun _ _ _ h => h) (Or.inl ⟨by rfl, ?_⟩) (by assumption) ?_
    rotate_left
    · intro y hSw
      obtain ⟨u1, u2⟩ := hSw; have v1 := u1.loads 0 N32 (q4 _) (q5 _); have v2 := u2.loads 0 N32 (q4 _) (q5 _)
      go_simp
      try with_reducible rfl
    try simp only [Act.put, List.setIfInBounds_toArray, List.set_cons_zero, List.set_cons_succ]
    -- 25: pick
    refine wpAnyH_take (i := 25) (oi := { dst := some 71, op := Op.pick (Operand.tmp 65) (Operand.tmp 70) (Operand.const (Value.bool false)), type := 4, pos := "law.go:88", after := #[{ on := 19, ground := Ground.data }, { on := 24, ground := Ground.data }], guard := none }) (v := ?_) rfl (by kernel_rfl) (by kernel_rfl) (by kernel_rfl) (fun _ _ _ h => h) (Or.inl ⟨by rfl, ?_⟩) (by assumption) ?_
    rotate_left
    · intro y hSw
      obtain ⟨u1, u2⟩ := hSw; have v1 := u1.loads 0 N32 (q4 _) (q5 _); have v2 := u2.loads 0 N32 (q4 _) (q5 _)
      go_simp
      try with_reducible rfl
    try simp only [Act.put, List.setIfInBounds_toArray, List.set_cons_zero, List.set_cons_succ]
    -- 26: move
    refine wpAnyH_take (i := 26) (oi := { dst := some 72, op := Op.move (Operand.tmp 71), type := 4, pos := "law.go:88", after := #[{ on := 25, ground := Ground.data }, { on := 19, ground := Ground.chain }], guard := none }) (v := ?_) rfl (by kernel_rfl) (by kernel_rfl) (by kernel_rfl) (fun _ _ _ h => h) (Or.inl ⟨by rfl, ?_⟩) (by assumption) ?_
    rotate_left
    · intro y hSw
      obtain ⟨u1, u2⟩ := hSw; have v1 := u1.loads 0 N32 (q4 _) (q5 _); have v2 := u2.loads 0 N32 (q4 _) (q5 _)
      go_simp
      try with_reducible rfl
    try simp only [Act.put, List.setIfInBounds_toArray, List.set_cons_zero, List.set_cons_succ]
    -- 27: move
    refine wpAnyH_take (i := 27) (oi := { dst := some 73, op := Op.move (Operand.tmp 8), type := 22, pos := "law.go:88", after := #[{ on := 26, ground := Ground.guard }], guard := some (26, true) }) (v := ?_) rfl (by kernel_rfl) (by kernel_rfl) (by kernel_rfl) (fun _ _ _ h => h) (Or.inl ⟨by rfl, ?_⟩) (by assumption) ?_
    rotate_left
    · intro y hSw
      obtain ⟨u1, u2⟩ := hSw; have v1 := u1.loads 0 N32 (q4 _) (q5 _); have v2 := u2.loads 0 N32 (q4 _) (q5 _)
      go_simp
      try with_reducible rfl
    try simp only [Act.put, List.setIfInBounds_toArray, List.set_cons_zero, List.set_cons_succ]
    -- 28: len
    refine wpAnyH_take (i := 28) (oi := { dst := some 74, op := Op.call { callee := Callee.builtin Builtin.len, args := #[Operand.tmp 73], argTypes := #[22] }, type := 3, pos := "law.go:88", after := #[{ on := 27, ground := Ground.data }, { on := 26, ground := Ground.guard }], guard := some (26, true) }) (v := ?_) rfl (by kernel_rfl) (by kernel_rfl) (by kernel_rfl) (fun _ _ _ h => h) (Or.inl ⟨by rfl, ?_⟩) (by assumption) ?_
    rotate_left
    · intro y hSw
      obtain ⟨u1, u2⟩ := hSw; have v1 := u1.loads 0 N32 (q4 _) (q5 _); have v2 := u2.loads 0 N32 (q4 _) (q5 _)
      go_simp
      try with_reducible rfl
    try simp only [Act.put, List.setIfInBounds_toArray, List.set_cons_zero, List.set_cons_succ]
    -- 29: move
    refine wpAnyH_take (i := 29) (oi := { dst := some 75, op := Op.move (Operand.tmp 0), type := 22, pos := "law.go:88", after := #[{ on := 26, ground := Ground.guard }], guard := some (26, true) }) (v := ?_) rfl (by kernel_rfl) (by kernel_rfl) (by kernel_rfl) (fun _ _ _ h => h) (Or.inl ⟨by rfl, ?_⟩) (by assumption) ?_
    rotate_left
    · intro y hSw
      obtain ⟨u1, u2⟩ := hSw; have v1 := u1.loads 0 N32 (q4 _) (q5 _); have v2 := u2.loads 0 N32 (q4 _) (q5 _)
      go_simp
      try with_reducible rfl
    try simp only [Act.put, List.setIfInBounds_toArray, List.set_cons_zero, List.set_cons_succ]
    -- 30: len
    refine wpAnyH_take (i := 30) (oi := { dst := some 76, op := Op.call { callee := Callee.builtin Builtin.len, args := #[Operand.tmp 75], argTypes := #[22] }, type := 3, pos := "law.go:88", after := #[{ on := 29, ground := Ground.data }, { on := 26, ground := Ground.guard }], guard := some (26, true) }) (v := ?_) rfl (by kernel_rfl) (by kernel_rfl) (by kernel_rfl) (fun _ _ _ h => h) (Or.inl ⟨by rfl, ?_⟩) (by assumption) ?_
    rotate_left
    · intro y hSw
      obtain ⟨u1, u2⟩ := hSw; have v1 := u1.loads 0 N32 (q4 _) (q5 _); have v2 := u2.loads 0 N32 (q4 _) (q5 _)
      go_simp
      try with_reducible rfl
    try simp only [Act.put, List.setIfInBounds_toArray, List.set_cons_zero, List.set_cons_succ]
    -- 31: binOp
    refine wpAnyH_take (i := 31) (oi := { dst := some 77, op := Op.binOp BinOp.eql 3 (Operand.tmp 74) (Operand.tmp 76) 3, type := 4, pos := "law.go:88", after := #[{ on := 28, ground := Ground.data }, { on := 30, ground := Ground.data }, { on := 26, ground := Ground.guard }], guard := some (26, true) }) (v := ?_) rfl (by kernel_rfl) (by kernel_rfl) (by kernel_rfl) (fun _ _ _ h => h) (Or.inl ⟨by rfl, ?_⟩) (by assumption) ?_
    rotate_left
    · intro y hSw
      obtain ⟨u1, u2⟩ := hSw; have v1 := u1.loads 0 N32 (q4 _) (q5 _); have v2 := u2.loads 0 N32 (q4 _) (q5 _)
      go_simp
      try with_reducible rfl
    try simp only [Act.put, List.setIfInBounds_toArray, List.set_cons_zero, List.set_cons_succ]
    -- 32: pick
    refine wpAnyH_take (i := 32) (oi := { dst := some 78, op := Op.pick (Operand.tmp 72) (Operand.tmp 77) (Operand.const (Value.bool false)), type := 4, pos := "law.go:88", after := #[{ on := 26, ground := Ground.data }, { on := 31, ground := Ground.data }], guard := none }) (v := ?_) rfl (by kernel_rfl) (by kernel_rfl) (by kernel_rfl) (fun _ _ _ h => h) (Or.inl ⟨by rfl, ?_⟩) (by assumption) ?_
    rotate_left
    · intro y hSw
      obtain ⟨u1, u2⟩ := hSw; have v1 := u1.loads 0 N32 (q4 _) (q5 _); have v2 := u2.loads 0 N32 (q4 _) (q5 _)
      go_simp
      try with_reducible rfl
    try simp only [Act.put, List.setIfInBounds_toArray, List.set_cons_zero, List.set_cons_succ]
    -- 33: assign
    refine wpAnyH_take (i := 33) (oi := { dst := some 4, op := Op.assign (Operand.tmp 78), type := 4, pos := "law.go:88", after := #[{ on := 32, ground := Ground.data }, { on := 26, ground := Ground.chain }, { on := 0, ground := Ground.phase }, { on := 1, ground := Ground.phase }, { on := 2, ground := Ground.phase }, { on := 3, ground := Ground.phase }, { on := 4, ground := Ground.phase }, { on := 5, ground := Ground.phase }, { on := 6, ground := Ground.phase }, { on := 7, ground := Ground.phase }, { on := 8, ground := Ground.phase }, { on := 9, ground := Ground.phase }, { on := 10, ground := Ground.phase }, { on := 11, ground := Ground.phase }, { on := 12, ground := Ground.phase }, { on := 13, ground := Ground.phase }, { on := 14, ground := Ground.phase }, { on := 15, ground := Ground.phase }, { on := 16, ground := Ground.phase }, { on := 17, ground := Ground.phase }, { on := 18, ground := Ground.phase }, { on := 19, ground := Ground.phase }, { on := 20, ground := Ground.phase }, { on := 21, ground := Ground.phase }, { on := 22, ground := Ground.phase }, { on := 23, ground := Ground.phase }, { on := 24, ground := Ground.phase }, { on := 25, ground := Ground.phase }, { on := 26, ground := Ground.phase }, { on := 27, ground := Ground.phase }, { on := 28, ground := Ground.phase }, { on := 29, ground := Ground.phase }, { on := 30, ground := Ground.phase }, { on := 31, ground := Ground.phase }, { on := 32, ground := Ground.phase }], guard := none }) (v := ?_) rfl (by kernel_rfl) (by kernel_rfl) (by kernel_rfl) (fun _ _ _ h => h) (Or.inl ⟨by rfl, ?_⟩) (by assumption) ?_
    rotate_left
    · intro y hSw
      obtain ⟨u1, u2⟩ := hSw; have v1 := u1.loads 0 N32 (q4 _) (q5 _); have v2 := u2.loads 0 N32 (q4 _) (q5 _)
      go_simp
      try with_reducible rfl
    try simp only [Act.put, List.setIfInBounds_toArray, List.set_cons_zero, List.set_cons_succ]
    refine wpAnyH_done (by kernel_rfl) ?_ _

    clear oA oB oA0 oB0 oB3 oB4 oB6 o3 o4 o12 o13 b0 b3 b4 b6 b12 b13 ho3 ho4 ho12 ho13 k0 k3 k4 k6 k12 k13 k15 hHeld eG
    go_wp2
    go_ret
    exact ⟨by simp, b15.out⟩
  · have hm' : mayB l = false := by simpa using hm
    rw [hm']
    clear cm x0 g0 o0 h1 o1 x1
    go_wp2_with fail
    refine cf.out.mono ?_
    rintro e w3 ⟨rfl, h3⟩
    have b4 := hide (onto b1.out (Nat.le_refl _) h3)
    clear cf h3 b1
    go_wp2
    go_ret
    exact ⟨rfl, b4.out⟩

theorem each_walk (w : World) (v : Value) (l : List Mi) (hl : IsOps w v l) (hw : WordsM l) (hc : CapOk v) (R : Nat → Int) (hR : ∀ k, Cp.W32 (R k)) :
    Calls Try.prog 8 #[v, .agg (cellsX R)] w fun e w' => e = .returned (.bool true) ∧ Below w.heap.size w w' := by
  obtain ⟨ad, n, c, rfl, hnc, h⟩ := cut_ops hl hw hc 16
  rcases h with ⟨hn, h, hw'⟩ | ⟨hn, h, hw'⟩
  · exact each_cut hnc (Or.inl ⟨hn, rfl⟩) h hw' (by rw [cut_len h]; exact hn) R hR
  · exact each_cut hnc (Or.inr ⟨hn, rfl⟩) h hw' (by rw [cut_len h]; exact Nat.le_refl _) R hR

end Go.Proofs.Ytnbflahggpehpaa.Ir
