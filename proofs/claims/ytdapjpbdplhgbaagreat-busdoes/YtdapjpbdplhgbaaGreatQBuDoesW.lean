/- Whatever is loaded, stored, fed, and whatever time passes, in any order: both buses answer alike. -/
import Derived.Test.YtdapjpbdplhgbaaGreatQBuStep2
import Derived.Test.YtdapjpbdplhgbaaGreatQBuClone
import Derived.Deep.CutBlock
import Derived.Deep.RegionHeld3
namespace Go.Proofs.YtdapjpbdplhgbaaGreat
open Go.RowKit
set_option linter.unusedVariables false
set_option maxRecDepth 100000
set_option linter.unusedSimpArgs false

theorem min_max8 (a : Int) : ∃ n : Nat, 4 ≤ n ∧ n ≤ 8 ∧ max 4 (min a 8) = (n : Int) := ⟨(max 4 (min a 8)).toNat, by omega, by omega, by omega⟩

theorem step_is {w x : World} {b p g c b' p' gb gd n : Nat} {v : Dv} {B : Nat → Nat} {D : Nat → Bool} (S : Side w x b p g c b' p' gb gd n v B D) (o : Op12) (ho : o.Fits) :
    Calls Tryz.prog 10 #[.pointer (some ⟨b, 0, none⟩), .pointer (some ⟨b', 0, none⟩), .agg (cellsO o)] x fun e y => e = .returned (.bool true) ∧ ∃ v' B' D', Side w y b p g c b' p' gb gd n v' B' D' := by
  by_cases h0 : o.k = 0
  · exact step_load S o ho h0
  · by_cases h1 : o.k = 1
    · exact step_store S o ho h1
    · by_cases h2 : o.k = 2
      · exact step_peek S o ho h2
      · by_cases h3 : o.k = 3
        · exact step_tick S o ho h3
        · by_cases h4 : o.k = 4
          · exact step_feed S o ho h4
          · by_cases h6 : o.k = 6
            · exact step_set S o ho h6
            · exact step_else S o ho ⟨h0, h1, h2, h3, h4, h6⟩

/-- The old bus goes its own way; the clone takes its place. -/
theorem Side.cloned {w x y z : World} {b p g c b' p' gb gd n b2 p2 g2 c2 : Nat} {v : Dv} {B : Nat → Nat} {D : Nat → Bool} (h : Side w x b p g c b' p' gb gd n v B D) (h2 : Bus y b2 p2 g2 n c2 v B D) (z1 : x.heap.size ≤ b2) (z2 : x.heap.size ≤ p2) (z3 : x.heap.size ≤ g2) (be : Below x.heap.size x y)
    (k : Kept [b, g] y z) : Side w z b2 p2 g2 c2 b' p' gb gd n v B D := by
  have l1 := h.o1.bus.lt
  have l2 := h.o1.bus.m.zg
  have l3 := h.o2.bus.lt
  have l4 := h.o2.bus.m.zp
  have l5 := h.o2.bus.m.zb
  have l6 := h.o2.bus.m.zd
  have l7 := h.o1.be.size
  have hl1 : ∀ i, i ∈ [b, g] → w.heap.size ≤ i := by intro i hi; simp at hi; rcases hi with rfl | rfl; exact h.o1.zb; exact h.o1.zg
  have bz := Kept.below (onto h.o1.be (Nat.le_refl _) be) k (Nat.le_refl _) hl1
  refine ⟨⟨h2.keep k (by simp; omega) (by simp; omega) (by simp; omega), bz, by omega, by omega, by omega⟩, (h.o2.on be).keep k hl1 h.n1.1 h.n1.2.1 h.n1.2.2.1 h.n1.2.2.2, ⟨?_, ?_, ?_, ?_⟩, ⟨?_, ?_, ?_⟩⟩
  all_goals (simp; omega)

set_option maxHeartbeats 8000000 in
set_option maxRecDepth 100000 in
theorem does_walk (w : World) (a0 : Int) (w0 : (Lit.int .i64 a0).wf = true) (v1 : Value) (ops : List Op12) (hv : IsOps12 w v1 ops) :
    Calls Tryz.prog 3 #[.int .i64 a0, v1] w fun e w' => e = .returned (.bool true) ∧ Below w.heap.size w w' := by
  obtain ⟨ad, N, cp, rfl, hN, hM, hX⟩ := hv.open'
  unfold maxLen at hM
  replace hN := hide hN
  replace hX := hide hX
  clear hv w0
  obtain ⟨n, h4, h8, hmm⟩ := min_max8 a0
  go_enter Tryz.func3, Tryz.ntmps3
  go_wp2_with fail
  refine (busNew_any n h4 (by omega) w).mono ?_
  rintro e x1 ⟨b, p, g, rfl, hB, zb, zp, zg, b1⟩
  have O : Hid (Own w x1 b p g n n V0 (fun _ => 0) (fun _ => false)) := hide ⟨hB, b1, zb, zp, zg⟩
  clear hB b1 hmm zb zp zg
  go_wp2_with fail
  refine (rbusNew_any n h4 (by omega) x1).mono ?_
  rintro e x2 ⟨b', p', gb, gd, rfl, hR, zb', zp', zgb, zgd, b2⟩
  have S0 := hide (Side.made O.out hR zb' zp' zgb zgd b2)
  clear O hR zb' zp' zgb zgd b2
  go_wp2_with fail
  go_loopw [6, 10] (fun s i wr => ∃ (k b : Nat), k ≤ 150 ∧ i = .int .i64 k ∧ s = .pointer (some ⟨b, 0, none⟩) ∧ Hid (∃ p g c v B D, Side w wr b p g c b' p' gb gd n v B D)) (fun _ i _ => 150 - (intOf i).toNat)
  case atStart => exact ⟨0, b, by omega, rfl, rfl, hide ⟨_, _, _, _, _, _, S0.out⟩⟩
  case round =>
    clear S0
    obtain ⟨k, b, hk, rfl, rfl, HS⟩ := hrel
    by_cases hc : k < N ∧ k < 150
    · have h1 := hc.1
      have h2 := hc.2
      have d1 : decide ((k : Int) < (N : Int)) = true := by simp; omega
      have d2 : decide ((k : Int) < 150) = true := by simp; omega
      have d3 : (k : Int) < (N : Int) := by omega
      clear hc
      obtain ⟨o, hz⟩ : ∃ o, ops[k]? = some o := ⟨_, List.getElem?_eq_getElem (by rw [← hN.out]; exact h1)⟩
      obtain ⟨hF, bb, off, rfl, hlt, hat⟩ := hX.out k o hz
      replace hF := hide hF
      obtain ⟨ok, oz, oa, om, oea, oek, oem⟩ := o
      have hA : Hid (∀ y : World, Below w.heap.size w y → y.cell? ⟨bb, off + k * 7, none⟩ = some (.int .i64 ok) ∧ y.cell? ⟨bb, off + k * 7 + 1, none⟩ = some (.int .i64 oz) ∧ y.cell? ⟨bb, off + k * 7 + 2, none⟩ = some (.int .u32 oa) ∧ y.cell? ⟨bb, off + k * 7 + 3, none⟩ = some (.int .u32 om) ∧
          y.cell? ⟨bb, off + k * 7 + 4, none⟩ = some (.int .i64 oea) ∧ y.cell? ⟨bb, off + k * 7 + 5, none⟩ = some (.int .i64 oek) ∧ y.cell? ⟨bb, off + k * 7 + 6, none⟩ = some (.int .u32 oem)) := hide (fun y hy => (hat.keep (hy.block bb hlt)).seven)
      clear hat hz hX hN
      obtain ⟨p, g, c, v, B, D, S1⟩ := HS.out
      replace S1 := hide S1
      clear HS
      have c0 := (hA.out _ S1.out.o1.be).1
      go_upto_if 54 with fail
      clear c0
      go_cut [6, 11] from 39 to 109 (fun s6 _ x => ∃ b, s6 = .pointer (some ⟨b, 0, none⟩) ∧ Hid (∃ p g c v B D, Side w x b p g c b' p' gb gd n v B D))
      case first =>
        by_cases h5 : ok = 5
        · subst h5
          go_wp2_with fail
          refine (busClone_any S1.out.o1.bus).mono ?_
          rintro e y1 ⟨b2, p2, g2, c2, rfl, hC, q1, q2, q3, bc⟩
          have O1 := hide (S1.out.o1.bus.on bc)
          have HC := hide (And.intro hC (And.intro q1 (And.intro q2 (And.intro q3 bc))))
          clear hC q1 q2 q3 bc
          go_wp2_with fail
          refine (store_is O1.out 0 4 1818584692 (by omega) (by omega) (by omega) (by omega)).mono ?_
          rintro e y2 ⟨rfl, hB, K1⟩
          replace O1 := hide hB
          replace K1 := hide K1
          clear hB
          generalize stA n v B D 0 4 1818584692 = A1 at *
          go_wp2_with fail
          refine (tick_any O1.out).mono ?_
          rintro e y3 ⟨rfl, hB, K2⟩
          replace O1 := hide hB
          replace K1 := hide (K1.out.trans K2)
          clear hB K2
          generalize linesV (tkV n A1.v A1.B) = A2 at *
          go_wp2_with fail
          refine (feed_is O1.out 0 0 33 (by omega) (by omega)).mono ?_
          rintro e y4 ⟨rfl, hB, K3⟩
          have fin : Hid (∃ p g c v B D, Side w y4 b2 p g c b' p' gb gd n v B D) := hide ⟨_, _, _, _, _, _, S1.out.cloned HC.out.1 HC.out.2.1 HC.out.2.2.1 HC.out.2.2.2.1 HC.out.2.2.2.2 (K1.out.trans (kept1 K3))⟩
          clear hB K3 O1 K1 S1 HC
          generalize fdE 0 = A3 at *
          go_wp2
          go_meet
          case rel => exact ⟨b2, rfl, fin⟩
        · have h5' : (ok == 5) = false := by simpa using h5
          go_wp2
          go_meet
          case rel => exact ⟨b, rfl, hide ⟨_, _, _, _, _, _, S1.out⟩⟩
      case rest =>
        clear S1
        obtain ⟨b, rfl, HS⟩ := hcut
        obtain ⟨p, g, c, v, B, D, S1⟩ := HS.out
        replace S1 := hide S1
        clear HS
        have cst := hide (fun (X : World) (SX : Side w X b p g c b' p' gb gd n v B D) => step_is SX ⟨ok, oz, oa, om, oea, oek, oem⟩ hF.out)
        go_wp2_with fail
        obtain ⟨-, -, z3, -, -, -, -, -, -, -⟩ := sizeRules
        have n3 : ¬ Dm.N5 = 0 := by decide
        replace S1 := hide (S1.out.on (Below.refl _ _).drew)
        refine wp_region_held_drew (S := fun x => Below w.heap.size w x) (by kernel_rfl) S1.out.o1.be (fun hHeld => ?_)
        generalize wc.drew = xd at *
        refine wpAnyH_take (i := 0) (oi := { dst := some 67, op := Op.move (Operand.tmp 6), type := 23, pos := "law.go:99", after := #[], guard := none }) (v := ?_) rfl (by kernel_rfl) (by kernel_rfl) (by kernel_rfl) (fun _ _ _ h => h) (Or.inl ⟨by rfl, ?_⟩) (by assumption) ?_
        rotate_left
        · intro y hSw
          obtain ⟨e0, e1, e2, e3, e4, e5, e6⟩ := hA.out _ hSw
          go_simp
          try with_reducible rfl
        try simp only [Act.put, List.setIfInBounds_toArray, List.set_cons_zero, List.set_cons_succ]
        refine wpAnyH_take (i := 1) (oi := { dst := some 68, op := Op.move (Operand.tmp 8), type := 27, pos := "law.go:99", after := #[], guard := none }) (v := ?_) rfl (by kernel_rfl) (by kernel_rfl) (by kernel_rfl) (fun _ _ _ h => h) (Or.inl ⟨by rfl, ?_⟩) (by assumption) ?_
        rotate_left
        · intro y hSw
          obtain ⟨e0, e1, e2, e3, e4, e5, e6⟩ := hA.out _ hSw
          go_simp
          try with_reducible rfl
        try simp only [Act.put, List.setIfInBounds_toArray, List.set_cons_zero, List.set_cons_succ]
        refine wpAnyH_take (i := 2) (oi := { dst := some 69, op := Op.move (Operand.tmp 1), type := 22, pos := "law.go:99", after := #[], guard := none }) (v := ?_) rfl (by kernel_rfl) (by kernel_rfl) (by kernel_rfl) (fun _ _ _ h => h) (Or.inl ⟨by rfl, ?_⟩) (by assumption) ?_
        rotate_left
        · intro y hSw
          obtain ⟨e0, e1, e2, e3, e4, e5, e6⟩ := hA.out _ hSw
          go_simp
          try with_reducible rfl
        try simp only [Act.put, List.setIfInBounds_toArray, List.set_cons_zero, List.set_cons_succ]
        refine wpAnyH_take (i := 3) (oi := { dst := some 70, op := Op.move (Operand.tmp 10), type := 3, pos := "law.go:99", after := #[], guard := none }) (v := ?_) rfl (by kernel_rfl) (by kernel_rfl) (by kernel_rfl) (fun _ _ _ h => h) (Or.inl ⟨by rfl, ?_⟩) (by assumption) ?_
        rotate_left
        · intro y hSw
          obtain ⟨e0, e1, e2, e3, e4, e5, e6⟩ := hA.out _ hSw
          go_simp
          try with_reducible rfl
        try simp only [Act.put, List.setIfInBounds_toArray, List.set_cons_zero, List.set_cons_succ]
        refine wpAnyH_take (i := 4) (oi := { dst := some 71, op := Op.indexAddr 22 (Operand.tmp 69) (Operand.tmp 70), type := 0, pos := "law.go:99", after := #[{ on := 2, ground := Ground.data }, { on := 3, ground := Ground.data }], guard := none }) (v := ?_) rfl (by kernel_rfl) (by kernel_rfl) (by kernel_rfl) (fun _ _ _ h => h) (Or.inl ⟨by rfl, ?_⟩) (by assumption) ?_
        rotate_left
        · intro y hSw
          obtain ⟨e0, e1, e2, e3, e4, e5, e6⟩ := hA.out _ hSw
          go_simp
          try with_reducible rfl
        try simp only [Act.put, List.setIfInBounds_toArray, List.set_cons_zero, List.set_cons_succ]
        refine wpAnyH_take (i := 5) (oi := { dst := some 72, op := Op.load 34 (Operand.tmp 71), type := 34, pos := "law.go:99", after := #[{ on := 4, ground := Ground.data }], guard := none }) (v := ?_) rfl (by kernel_rfl) (by kernel_rfl) (by kernel_rfl) (fun _ _ _ h => h) (Or.inl ⟨by rfl, ?_⟩) (by assumption) ?_
        rotate_left
        · intro y hSw
          obtain ⟨e0, e1, e2, e3, e4, e5, e6⟩ := hA.out _ hSw
          go_simp
          try with_reducible rfl
        try simp only [Act.put, List.setIfInBounds_toArray, List.set_cons_zero, List.set_cons_succ]
        refine wpAnyH_ready (rs := [6]) (by kernel_rfl) (by simp) ?_
        refine AllReadyH.cons (o := { dst := some 73, op := Op.call { callee := Callee.value (Operand.func 10), args := #[Operand.tmp 67, Operand.tmp 68, Operand.tmp 72], argTypes := #[23, 27, 34] }, type := 4, pos := "law.go:99", after := #[{ on := 0, ground := Ground.data }, { on := 1, ground := Ground.data }, { on := 5, ground := Ground.data }], guard := none }) rfl (fun K hK => ?_) AllReadyH.nil
        go_simp
        refine (cst.out _ S1.out).mono ?_
        rintro e x1 ⟨rfl, v', B', D', SD⟩
        replace SD := hide SD
        clear S1 cst
        obtain ⟨T, hT⟩ : ∃ T, devV v' = T := ⟨_, rfl⟩
        replace hT := hide hT
        obtain ⟨I, hI⟩ : ∃ I, textOf (256 * n) B' = I := ⟨_, rfl⟩
        replace hI := hide hI
        have hneq := fun y => Dm.neq_self v'.d y
        go_wp2_with fail
        refine hK.out _ _ (SD.out.o1.be) (fun hHeld => ?_)
        clear hK K
        try simp only [Act.put, List.setIfInBounds_toArray, List.set_cons_zero, List.set_cons_succ]
        refine wpAnyH_take (i := 7) (oi := { dst := some 74, op := Op.unOp UnOp.not 4 (Operand.tmp 73), type := 4, pos := "law.go:99", after := #[{ on := 6, ground := Ground.data }], guard := none }) (v := ?_) rfl (by kernel_rfl) (by kernel_rfl) (by kernel_rfl) (fun _ _ _ h => h) (Or.inl ⟨by rfl, ?_⟩) (by assumption) ?_
        rotate_left
        · intro y hSw
          obtain ⟨e0, e1, e2, e3, e4, e5, e6⟩ := hA.out _ hSw
          go_simp
          try with_reducible rfl
        try simp only [Act.put, List.setIfInBounds_toArray, List.set_cons_zero, List.set_cons_succ]
        refine wpAnyH_take (i := 8) (oi := { dst := some 75, op := Op.move (Operand.tmp 74), type := 4, pos := "law.go:99", after := #[{ on := 7, ground := Ground.data }, { on := 6, ground := Ground.chain }], guard := none }) (v := ?_) rfl (by kernel_rfl) (by kernel_rfl) (by kernel_rfl) (fun _ _ _ h => h) (Or.inl ⟨by rfl, ?_⟩) (by assumption) ?_
        rotate_left
        · intro y hSw
          obtain ⟨e0, e1, e2, e3, e4, e5, e6⟩ := hA.out _ hSw
          go_simp
          try with_reducible rfl
        try simp only [Act.put, List.setIfInBounds_toArray, List.set_cons_zero, List.set_cons_succ]
        refine wpAnyH_take (i := 9) (oi := { dst := some 76, op := Op.move (Operand.tmp 6), type := 23, pos := "law.go:99", after := #[{ on := 8, ground := Ground.guard }], guard := some (8, false) }) (v := ?_) rfl (by kernel_rfl) (by kernel_rfl) (by kernel_rfl) (fun _ _ _ h => h) (Or.inl ⟨by rfl, ?_⟩) (by assumption) ?_
        rotate_left
        · intro y hSw
          obtain ⟨e0, e1, e2, e3, e4, e5, e6⟩ := hA.out _ hSw
          go_simp
          try with_reducible rfl
        try simp only [Act.put, List.setIfInBounds_toArray, List.set_cons_zero, List.set_cons_succ]
        refine wpAnyH_take (i := 11) (oi := { dst := some 78, op := Op.move (Operand.tmp 8), type := 27, pos := "law.go:99", after := #[{ on := 8, ground := Ground.guard }], guard := some (8, false) }) (v := ?_) rfl (by kernel_rfl) (by kernel_rfl) (by kernel_rfl) (fun _ _ _ h => h) (Or.inl ⟨by rfl, ?_⟩) (by assumption) ?_
        rotate_left
        · intro y hSw
          obtain ⟨e0, e1, e2, e3, e4, e5, e6⟩ := hA.out _ hSw
          go_simp
          try with_reducible rfl
        try simp only [Act.put, List.setIfInBounds_toArray, List.set_cons_zero, List.set_cons_succ]
        refine wpAnyH_ready (rs := [10]) (by kernel_rfl) (by simp) ?_
        refine AllReadyH.cons (o := { dst := some 77, op := Op.call { callee := Callee.value (Operand.func 11), args := #[Operand.tmp 76], argTypes := #[23] }, type := 9, pos := "law.go:99", after := #[{ on := 9, ground := Ground.data }, { on := 8, ground := Ground.chain }, { on := 8, ground := Ground.guard }], guard := some (8, false) }) rfl (fun K hK => ?_) AllReadyH.nil
        go_simp
        refine (devices_any SD.out.o1.bus).mono ?_
        rintro e x2 ⟨rfl, hn⟩
        rw [hT.out]
        replace SD := hide (SD.out.on hn)
        go_wp2_with fail
        refine hK.out _ _ (SD.out.o1.be) (fun hHeld => ?_)
        clear hK K
        try simp only [Act.put, List.setIfInBounds_toArray, List.set_cons_zero, List.set_cons_succ]
        clear hn
        refine wpAnyH_ready (rs := [12]) (by kernel_rfl) (by simp) ?_
        refine AllReadyH.cons (o := { dst := some 79, op := Op.call { callee := Callee.value (Operand.func 12), args := #[Operand.tmp 78], argTypes := #[27] }, type := 9, pos := "law.go:99", after := #[{ on := 11, ground := Ground.data }, { on := 10, ground := Ground.chain }, { on := 8, ground := Ground.guard }], guard := some (8, false) }) rfl (fun K hK => ?_) AllReadyH.nil
        go_simp
        refine (rdevices_any SD.out.o2.bus).mono ?_
        rintro e x3 ⟨rfl, hn⟩
        rw [hT.out]
        replace SD := hide (SD.out.on hn)
        go_wp2_with fail
        refine hK.out _ _ (SD.out.o1.be) (fun hHeld => ?_)
        clear hK K
        try simp only [Act.put, List.setIfInBounds_toArray, List.set_cons_zero, List.set_cons_succ]
        clear hn
        refine wpAnyH_take (i := 13) (oi := { dst := some 80, op := Op.binOp BinOp.neq 9 (Operand.tmp 77) (Operand.tmp 79) 9, type := 4, pos := "law.go:99", after := #[{ on := 10, ground := Ground.data }, { on := 12, ground := Ground.data }, { on := 8, ground := Ground.guard }], guard := some (8, false) }) (v := ?_) rfl (by kernel_rfl) (by kernel_rfl) (by kernel_rfl) (fun _ _ _ h => h) (Or.inl ⟨by rfl, ?_⟩) (by assumption) ?_
        rotate_left
        · intro y hSw
          obtain ⟨e0, e1, e2, e3, e4, e5, e6⟩ := hA.out _ hSw
          go_simp
          try with_reducible rfl
        try simp only [Act.put, List.setIfInBounds_toArray, List.set_cons_zero, List.set_cons_succ]
        refine wpAnyH_take (i := 14) (oi := { dst := some 81, op := Op.pick (Operand.tmp 75) (Operand.const (Value.bool true)) (Operand.tmp 80), type := 4, pos := "law.go:99", after := #[{ on := 8, ground := Ground.data }, { on := 13, ground := Ground.data }], guard := none }) (v := ?_) rfl (by kernel_rfl) (by kernel_rfl) (by kernel_rfl) (fun _ _ _ h => h) (Or.inl ⟨by rfl, ?_⟩) (by assumption) ?_
        rotate_left
        · intro y hSw
          obtain ⟨e0, e1, e2, e3, e4, e5, e6⟩ := hA.out _ hSw
          go_simp
          try with_reducible rfl
        try simp only [Act.put, List.setIfInBounds_toArray, List.set_cons_zero, List.set_cons_succ]
        refine wpAnyH_take (i := 15) (oi := { dst := some 82, op := Op.move (Operand.tmp 81), type := 4, pos := "law.go:99", after := #[{ on := 14, ground := Ground.data }, { on := 12, ground := Ground.chain }], guard := none }) (v := ?_) rfl (by kernel_rfl) (by kernel_rfl) (by kernel_rfl) (fun _ _ _ h => h) (Or.inl ⟨by rfl, ?_⟩) (by assumption) ?_
        rotate_left
        · intro y hSw
          obtain ⟨e0, e1, e2, e3, e4, e5, e6⟩ := hA.out _ hSw
          go_simp
          try with_reducible rfl
        try simp only [Act.put, List.setIfInBounds_toArray, List.set_cons_zero, List.set_cons_succ]
        refine wpAnyH_take (i := 16) (oi := { dst := some 83, op := Op.move (Operand.tmp 6), type := 23, pos := "law.go:99", after := #[{ on := 15, ground := Ground.guard }], guard := some (15, false) }) (v := ?_) rfl (by kernel_rfl) (by kernel_rfl) (by kernel_rfl) (fun _ _ _ h => h) (Or.inl ⟨by rfl, ?_⟩) (by assumption) ?_
        rotate_left
        · intro y hSw
          obtain ⟨e0, e1, e2, e3, e4, e5, e6⟩ := hA.out _ hSw
          go_simp
          try with_reducible rfl
        try simp only [Act.put, List.setIfInBounds_toArray, List.set_cons_zero, List.set_cons_succ]
        refine wpAnyH_take (i := 18) (oi := { dst := some 85, op := Op.move (Operand.tmp 8), type := 27, pos := "law.go:99", after := #[{ on := 15, ground := Ground.guard }], guard := some (15, false) }) (v := ?_) rfl (by kernel_rfl) (by kernel_rfl) (by kernel_rfl) (fun _ _ _ h => h) (Or.inl ⟨by rfl, ?_⟩) (by assumption) ?_
        rotate_left
        · intro y hSw
          obtain ⟨e0, e1, e2, e3, e4, e5, e6⟩ := hA.out _ hSw
          go_simp
          try with_reducible rfl
        try simp only [Act.put, List.setIfInBounds_toArray, List.set_cons_zero, List.set_cons_succ]
        refine wpAnyH_take (i := 19) (oi := { dst := some 86, op := Op.nilCheck (Operand.tmp 85), type := 0, pos := "law.go:99", after := #[{ on := 18, ground := Ground.data }, { on := 15, ground := Ground.guard }], guard := some (15, false) }) (v := ?_) rfl (by kernel_rfl) (by kernel_rfl) (by kernel_rfl) (fun _ _ _ h => h) (Or.inl ⟨by rfl, ?_⟩) (by assumption) ?_
        rotate_left
        · intro y hSw
          obtain ⟨e0, e1, e2, e3, e4, e5, e6⟩ := hA.out _ hSw
          go_simp
          try with_reducible rfl
        try simp only [Act.put, List.setIfInBounds_toArray, List.set_cons_zero, List.set_cons_succ]
        refine wpAnyH_take (i := 20) (oi := { dst := some 87, op := Op.fieldAddr 52 (Operand.tmp 86) 3, type := 0, pos := "law.go:99", after := #[{ on := 19, ground := Ground.data }, { on := 15, ground := Ground.guard }], guard := some (15, false) }) (v := ?_) rfl (by kernel_rfl) (by kernel_rfl) (by kernel_rfl) (fun _ _ _ h => h) (Or.inl ⟨by rfl, ?_⟩) (by assumption) ?_
        rotate_left
        · intro y hSw
          obtain ⟨e0, e1, e2, e3, e4, e5, e6⟩ := hA.out _ hSw
          go_simp
          try with_reducible rfl
        try simp only [Act.put, List.setIfInBounds_toArray, List.set_cons_zero, List.set_cons_succ]
        refine wpAnyH_ready (rs := [17, 21]) (by kernel_rfl) (by simp) ?_
        refine AllReadyH.cons (o := { dst := some 84, op := Op.call { callee := Callee.value (Operand.func 13), args := #[Operand.tmp 83], argTypes := #[23] }, type := 42, pos := "law.go:99", after := #[{ on := 16, ground := Ground.data }, { on := 15, ground := Ground.chain }, { on := 15, ground := Ground.guard }], guard := some (15, false) }) rfl (fun K hK => ?_) ?_
        · go_simp
          refine (dma_any SD.out.o1.bus).mono ?_
          rintro e x4 ⟨rfl, hn⟩
          replace SD := hide (SD.out.on hn)
          go_wp2_with fail
          refine hK.out _ _ (SD.out.o1.be) (fun hHeld => ?_)
          clear hK K
          try simp only [Act.put, List.setIfInBounds_toArray, List.set_cons_zero, List.set_cons_succ]
          clear hn
          refine wpAnyH_ready (rs := [21]) (by kernel_rfl) (by simp) ?_
          refine AllReadyH.cons (o := { dst := some 88, op := Op.load 42 (Operand.tmp 87), type := 42, pos := "law.go:99", after := #[{ on := 20, ground := Ground.data }, { on := 15, ground := Ground.guard }], guard := some (15, false) }) rfl (fun K hK => ?_) AllReadyH.nil
          have ld : (loadCellsFrom ⟨b', 7, none⟩ 0 Dm.N5 #[]).run Tryz.prog x4 = .ok (Dm.cellsD v'.d) x4 := Box.loads (c := cellsM v' p') ⟨SD.out.o2.bus.row, SD.out.o2.bus.at', SD.out.o2.bus.lt⟩ 7 _ rfl rfl
          go_simp
          refine hK.out _ _ (SD.out.o1.be) (fun hHeld => ?_)
          clear hK K
          try simp only [Act.put, List.setIfInBounds_toArray, List.set_cons_zero, List.set_cons_succ]
          clear ld
          refine wpAnyH_take (i := 22) (oi := { dst := some 89, op := Op.binOp BinOp.neq 42 (Operand.tmp 84) (Operand.tmp 88) 42, type := 4, pos := "law.go:99", after := #[{ on := 17, ground := Ground.data }, { on := 21, ground := Ground.data }, { on := 15, ground := Ground.guard }], guard := some (15, false) }) (v := ?_) rfl (by kernel_rfl) (by kernel_rfl) (by kernel_rfl) (fun _ _ _ h => h) (Or.inl ⟨by rfl, ?_⟩) (by assumption) ?_
          rotate_left
          · intro y hSw
            obtain ⟨e0, e1, e2, e3, e4, e5, e6⟩ := hA.out _ hSw
            go_simp
            try with_reducible rfl
          try simp only [Act.put, List.setIfInBounds_toArray, List.set_cons_zero, List.set_cons_succ]
          refine wpAnyH_take (i := 23) (oi := { dst := some 90, op := Op.pick (Operand.tmp 82) (Operand.const (Value.bool true)) (Operand.tmp 89), type := 4, pos := "law.go:99", after := #[{ on := 15, ground := Ground.data }, { on := 22, ground := Ground.data }], guard := none }) (v := ?_) rfl (by kernel_rfl) (by kernel_rfl) (by kernel_rfl) (fun _ _ _ h => h) (Or.inl ⟨by rfl, ?_⟩) (by assumption) ?_
          rotate_left
          · intro y hSw
            obtain ⟨e0, e1, e2, e3, e4, e5, e6⟩ := hA.out _ hSw
            go_simp
            try with_reducible rfl
          try simp only [Act.put, List.setIfInBounds_toArray, List.set_cons_zero, List.set_cons_succ]
          refine wpAnyH_take (i := 24) (oi := { dst := some 91, op := Op.move (Operand.tmp 90), type := 4, pos := "law.go:99", after := #[{ on := 23, ground := Ground.data }, { on := 17, ground := Ground.chain }], guard := none }) (v := ?_) rfl (by kernel_rfl) (by kernel_rfl) (by kernel_rfl) (fun _ _ _ h => h) (Or.inl ⟨by rfl, ?_⟩) (by assumption) ?_
          rotate_left
          · intro y hSw
            obtain ⟨e0, e1, e2, e3, e4, e5, e6⟩ := hA.out _ hSw
            go_simp
            try with_reducible rfl
          try simp only [Act.put, List.setIfInBounds_toArray, List.set_cons_zero, List.set_cons_succ]
          refine wpAnyH_take (i := 25) (oi := { dst := some 92, op := Op.move (Operand.tmp 6), type := 23, pos := "law.go:99", after := #[{ on := 24, ground := Ground.guard }], guard := some (24, false) }) (v := ?_) rfl (by kernel_rfl) (by kernel_rfl) (by kernel_rfl) (fun _ _ _ h => h) (Or.inl ⟨by rfl, ?_⟩) (by assumption) ?_
          rotate_left
          · intro y hSw
            obtain ⟨e0, e1, e2, e3, e4, e5, e6⟩ := hA.out _ hSw
            go_simp
            try with_reducible rfl
          try simp only [Act.put, List.setIfInBounds_toArray, List.set_cons_zero, List.set_cons_succ]
          refine wpAnyH_ready (rs := [26]) (by kernel_rfl) (by simp) ?_
          refine AllReadyH.cons (o := { dst := some 93, op := Op.call { callee := Callee.value (Operand.func 14), args := #[Operand.tmp 92], argTypes := #[23] }, type := 53, pos := "law.go:99", after := #[{ on := 25, ground := Ground.data }, { on := 24, ground := Ground.chain }, { on := 24, ground := Ground.guard }], guard := some (24, false) }) rfl (fun K hK => ?_) AllReadyH.nil
          go_simp
          refine (memory_any SD.out.o1.bus).mono ?_
          rintro e x6 ⟨rfl, rfl⟩
          go_wp2_with fail
          refine hK.out _ _ (SD.out.o1.be) (fun hHeld => ?_)
          clear hK K
          try simp only [Act.put, List.setIfInBounds_toArray, List.set_cons_zero, List.set_cons_succ]
          refine wpAnyH_take (i := 27) (oi := { dst := some 94, op := Op.binOp BinOp.eql 53 (Operand.tmp 93) (Operand.const (Value.pointer none)) 53, type := 4, pos := "law.go:99", after := #[{ on := 26, ground := Ground.data }, { on := 24, ground := Ground.guard }], guard := some (24, false) }) (v := ?_) rfl (by kernel_rfl) (by kernel_rfl) (by kernel_rfl) (fun _ _ _ h => h) (Or.inl ⟨by rfl, ?_⟩) (by assumption) ?_
          rotate_left
          · intro y hSw
            obtain ⟨e0, e1, e2, e3, e4, e5, e6⟩ := hA.out _ hSw
            go_simp
            try with_reducible rfl
          try simp only [Act.put, List.setIfInBounds_toArray, List.set_cons_zero, List.set_cons_succ]
          refine wpAnyH_take (i := 28) (oi := { dst := some 95, op := Op.pick (Operand.tmp 91) (Operand.const (Value.bool true)) (Operand.tmp 94), type := 4, pos := "law.go:99", after := #[{ on := 24, ground := Ground.data }, { on := 27, ground := Ground.data }], guard := none }) (v := ?_) rfl (by kernel_rfl) (by kernel_rfl) (by kernel_rfl) (fun _ _ _ h => h) (Or.inl ⟨by rfl, ?_⟩) (by assumption) ?_
          rotate_left
          · intro y hSw
            obtain ⟨e0, e1, e2, e3, e4, e5, e6⟩ := hA.out _ hSw
            go_simp
            try with_reducible rfl
          try simp only [Act.put, List.setIfInBounds_toArray, List.set_cons_zero, List.set_cons_succ]
          refine wpAnyH_take (i := 29) (oi := { dst := some 96, op := Op.move (Operand.tmp 95), type := 4, pos := "law.go:99", after := #[{ on := 28, ground := Ground.data }, { on := 26, ground := Ground.chain }], guard := none }) (v := ?_) rfl (by kernel_rfl) (by kernel_rfl) (by kernel_rfl) (fun _ _ _ h => h) (Or.inl ⟨by rfl, ?_⟩) (by assumption) ?_
          rotate_left
          · intro y hSw
            obtain ⟨e0, e1, e2, e3, e4, e5, e6⟩ := hA.out _ hSw
            go_simp
            try with_reducible rfl
          try simp only [Act.put, List.setIfInBounds_toArray, List.set_cons_zero, List.set_cons_succ]
          refine wpAnyH_take (i := 30) (oi := { dst := some 97, op := Op.move (Operand.tmp 6), type := 23, pos := "law.go:99", after := #[{ on := 29, ground := Ground.guard }], guard := some (29, false) }) (v := ?_) rfl (by kernel_rfl) (by kernel_rfl) (by kernel_rfl) (fun _ _ _ h => h) (Or.inl ⟨by rfl, ?_⟩) (by assumption) ?_
          rotate_left
          · intro y hSw
            obtain ⟨e0, e1, e2, e3, e4, e5, e6⟩ := hA.out _ hSw
            go_simp
            try with_reducible rfl
          try simp only [Act.put, List.setIfInBounds_toArray, List.set_cons_zero, List.set_cons_succ]
          refine wpAnyH_take (i := 33) (oi := { dst := some 100, op := Op.move (Operand.tmp 8), type := 27, pos := "law.go:99", after := #[{ on := 29, ground := Ground.guard }], guard := some (29, false) }) (v := ?_) rfl (by kernel_rfl) (by kernel_rfl) (by kernel_rfl) (fun _ _ _ h => h) (Or.inl ⟨by rfl, ?_⟩) (by assumption) ?_
          rotate_left
          · intro y hSw
            obtain ⟨e0, e1, e2, e3, e4, e5, e6⟩ := hA.out _ hSw
            go_simp
            try with_reducible rfl
          try simp only [Act.put, List.setIfInBounds_toArray, List.set_cons_zero, List.set_cons_succ]
          refine wpAnyH_take (i := 34) (oi := { dst := some 101, op := Op.nilCheck (Operand.tmp 100), type := 0, pos := "law.go:99", after := #[{ on := 33, ground := Ground.data }, { on := 29, ground := Ground.guard }], guard := some (29, false) }) (v := ?_) rfl (by kernel_rfl) (by kernel_rfl) (by kernel_rfl) (fun _ _ _ h => h) (Or.inl ⟨by rfl, ?_⟩) (by assumption) ?_
          rotate_left
          · intro y hSw
            obtain ⟨e0, e1, e2, e3, e4, e5, e6⟩ := hA.out _ hSw
            go_simp
            try with_reducible rfl
          try simp only [Act.put, List.setIfInBounds_toArray, List.set_cons_zero, List.set_cons_succ]
          refine wpAnyH_take (i := 35) (oi := { dst := some 102, op := Op.fieldAddr 52 (Operand.tmp 101) 0, type := 0, pos := "law.go:99", after := #[{ on := 34, ground := Ground.data }, { on := 29, ground := Ground.guard }], guard := some (29, false) }) (v := ?_) rfl (by kernel_rfl) (by kernel_rfl) (by kernel_rfl) (fun _ _ _ h => h) (Or.inl ⟨by rfl, ?_⟩) (by assumption) ?_
          rotate_left
          · intro y hSw
            obtain ⟨e0, e1, e2, e3, e4, e5, e6⟩ := hA.out _ hSw
            go_simp
            try with_reducible rfl
          try simp only [Act.put, List.setIfInBounds_toArray, List.set_cons_zero, List.set_cons_succ]
          refine wpAnyH_ready (rs := [31, 36]) (by kernel_rfl) (by simp) ?_
          refine AllReadyH.cons (o := { dst := some 98, op := Op.call { callee := Callee.value (Operand.func 14), args := #[Operand.tmp 97], argTypes := #[23] }, type := 53, pos := "law.go:99", after := #[{ on := 30, ground := Ground.data }, { on := 29, ground := Ground.chain }, { on := 29, ground := Ground.guard }], guard := some (29, false) }) rfl (fun K hK => ?_) ?_
          · go_simp
            refine (memory_any SD.out.o1.bus).mono ?_
            rintro e x7 ⟨rfl, rfl⟩
            go_wp2_with fail
            refine hK.out _ _ (SD.out.o1.be) (fun hHeld => ?_)
            clear hK K
            try simp only [Act.put, List.setIfInBounds_toArray, List.set_cons_zero, List.set_cons_succ]
            refine wpAnyH_ready (rs := [32, 36]) (by kernel_rfl) (by simp) ?_
            refine AllReadyH.cons (o := { dst := some 99, op := Op.call { callee := Callee.value (Operand.func 15), args := #[Operand.tmp 98], argTypes := #[53] }, type := 9, pos := "law.go:99", after := #[{ on := 31, ground := Ground.data }, { on := 31, ground := Ground.chain }, { on := 29, ground := Ground.guard }], guard := some (29, false) }) rfl (fun K hK => ?_) ?_
            · go_simp
              refine (image_any SD.out.o1.bus.m).mono ?_
              rintro e x8 ⟨rfl, hn⟩
              rw [hI.out]
              replace SD := hide (SD.out.on hn)
              go_wp2_with fail
              refine hK.out _ _ (SD.out.o1.be) (fun hHeld => ?_)
              clear hK K
              try simp only [Act.put, List.setIfInBounds_toArray, List.set_cons_zero, List.set_cons_succ]
              clear hn
              refine wpAnyH_ready (rs := [36]) (by kernel_rfl) (by simp) ?_
              refine AllReadyH.cons (o := { dst := some 103, op := Op.load 44 (Operand.tmp 102), type := 44, pos := "law.go:99", after := #[{ on := 35, ground := Ground.data }, { on := 29, ground := Ground.guard }], guard := some (29, false) }) rfl (fun K hK => ?_) AllReadyH.nil
              have ld : x8.cell? ⟨b', 0, none⟩ = some (.pointer (some ⟨p', 0, none⟩)) := SD.out.o2.bus.cell 0
              go_simp
              refine hK.out _ _ (SD.out.o1.be) (fun hHeld => ?_)
              clear hK K
              try simp only [Act.put, List.setIfInBounds_toArray, List.set_cons_zero, List.set_cons_succ]
              clear ld
              refine wpAnyH_take (i := 37) (oi := { dst := some 104, op := Op.nilCheck (Operand.tmp 103), type := 0, pos := "law.go:99", after := #[{ on := 36, ground := Ground.data }, { on := 29, ground := Ground.guard }], guard := some (29, false) }) (v := ?_) rfl (by kernel_rfl) (by kernel_rfl) (by kernel_rfl) (fun _ _ _ h => h) (Or.inl ⟨by rfl, ?_⟩) (by assumption) ?_
              rotate_left
              · intro y hSw
                obtain ⟨e0, e1, e2, e3, e4, e5, e6⟩ := hA.out _ hSw
                go_simp
                try with_reducible rfl
              try simp only [Act.put, List.setIfInBounds_toArray, List.set_cons_zero, List.set_cons_succ]
              refine wpAnyH_take (i := 38) (oi := { dst := some 105, op := Op.fieldAddr 58 (Operand.tmp 104) 0, type := 0, pos := "law.go:99", after := #[{ on := 37, ground := Ground.data }, { on := 29, ground := Ground.guard }], guard := some (29, false) }) (v := ?_) rfl (by kernel_rfl) (by kernel_rfl) (by kernel_rfl) (fun _ _ _ h => h) (Or.inl ⟨by rfl, ?_⟩) (by assumption) ?_
              rotate_left
              · intro y hSw
                obtain ⟨e0, e1, e2, e3, e4, e5, e6⟩ := hA.out _ hSw
                go_simp
                try with_reducible rfl
              try simp only [Act.put, List.setIfInBounds_toArray, List.set_cons_zero, List.set_cons_succ]
              refine wpAnyH_ready (rs := [39]) (by kernel_rfl) (by simp) ?_
              refine AllReadyH.cons (o := { dst := some 106, op := Op.load 55 (Operand.tmp 105), type := 55, pos := "law.go:99", after := #[{ on := 38, ground := Ground.data }, { on := 29, ground := Ground.guard }], guard := some (29, false) }) rfl (fun K hK => ?_) AllReadyH.nil
              have ld := SD.out.o2.bus.m.hb
              go_simp
              refine hK.out _ _ (SD.out.o1.be) (fun hHeld => ?_)
              clear hK K
              try simp only [Act.put, List.setIfInBounds_toArray, List.set_cons_zero, List.set_cons_succ]
              clear ld
              refine wpAnyH_ready (rs := [40]) (by kernel_rfl) (by simp) ?_
              refine AllReadyH.cons (o := { dst := some 107, op := Op.convert 55 9 (Operand.tmp 106), type := 9, pos := "law.go:99", after := #[{ on := 39, ground := Ground.data }, { on := 29, ground := Ground.guard }], guard := some (29, false) }) rfl (fun K hK => ?_) AllReadyH.nil
              have hcv := rtext SD.out.o2.bus.m
              rw [hI.out] at hcv
              go_simp
              refine hK.out _ _ (SD.out.o1.be) (fun hHeld => ?_)
              clear hK K
              try simp only [Act.put, List.setIfInBounds_toArray, List.set_cons_zero, List.set_cons_succ]
              clear hcv
              refine wpAnyH_take (i := 41) (oi := { dst := some 108, op := Op.binOp BinOp.neq 9 (Operand.tmp 99) (Operand.tmp 107) 9, type := 4, pos := "law.go:99", after := #[{ on := 32, ground := Ground.data }, { on := 40, ground := Ground.data }, { on := 29, ground := Ground.guard }], guard := some (29, false) }) (v := ?_) rfl (by kernel_rfl) (by kernel_rfl) (by kernel_rfl) (fun _ _ _ h => h) (Or.inl ⟨by rfl, ?_⟩) (by assumption) ?_
              rotate_left
              · intro y hSw
                obtain ⟨e0, e1, e2, e3, e4, e5, e6⟩ := hA.out _ hSw
                go_simp
                try with_reducible rfl
              try simp only [Act.put, List.setIfInBounds_toArray, List.set_cons_zero, List.set_cons_succ]
              refine wpAnyH_take (i := 42) (oi := { dst := some 109, op := Op.pick (Operand.tmp 96) (Operand.const (Value.bool true)) (Operand.tmp 108), type := 4, pos := "law.go:99", after := #[{ on := 29, ground := Ground.data }, { on := 41, ground := Ground.data }], guard := none }) (v := ?_) rfl (by kernel_rfl) (by kernel_rfl) (by kernel_rfl) (fun _ _ _ h => h) (Or.inl ⟨by rfl, ?_⟩) (by assumption) ?_
              rotate_left
              · intro y hSw
                obtain ⟨e0, e1, e2, e3, e4, e5, e6⟩ := hA.out _ hSw
                go_simp
                try with_reducible rfl
              try simp only [Act.put, List.setIfInBounds_toArray, List.set_cons_zero, List.set_cons_succ]
              refine wpAnyH_done (by kernel_rfl) ?_ _
              clear hHeld hneq
              go_wp2
              go_roundw
              case rel => exact ⟨k + 1, b, by omega, by go_num, rfl, hide ⟨_, _, _, _, _, _, SD.out⟩⟩
              case measure => simp [intOf]; omega
            refine AllReadyH.cons (o := { dst := some 103, op := Op.load 44 (Operand.tmp 102), type := 44, pos := "law.go:99", after := #[{ on := 35, ground := Ground.data }, { on := 29, ground := Ground.guard }], guard := some (29, false) }) rfl (fun K hK => ?_) AllReadyH.nil
            have ld : x7.cell? ⟨b', 0, none⟩ = some (.pointer (some ⟨p', 0, none⟩)) := SD.out.o2.bus.cell 0
            go_simp
            refine hK.out _ _ (SD.out.o1.be) (fun hHeld => ?_)
            clear hK K
            try simp only [Act.put, List.setIfInBounds_toArray, List.set_cons_zero, List.set_cons_succ]
            clear ld
            refine wpAnyH_take (i := 37) (oi := { dst := some 104, op := Op.nilCheck (Operand.tmp 103), type := 0, pos := "law.go:99", after := #[{ on := 36, ground := Ground.data }, { on := 29, ground := Ground.guard }], guard := some (29, false) }) (v := ?_) rfl (by kernel_rfl) (by kernel_rfl) (by kernel_rfl) (fun _ _ _ h => h) (Or.inl ⟨by rfl, ?_⟩) (by assumption) ?_
            rotate_left
            · intro y hSw
              obtain ⟨e0, e1, e2, e3, e4, e5, e6⟩ := hA.out _ hSw
              go_simp
              try with_reducible rfl
            try simp only [Act.put, List.setIfInBounds_toArray, List.set_cons_zero, List.set_cons_succ]
            refine wpAnyH_take (i := 38) (oi := { dst := some 105, op := Op.fieldAddr 58 (Operand.tmp 104) 0, type := 0, pos := "law.go:99", after := #[{ on := 37, ground := Ground.data }, { on := 29, ground := Ground.guard }], guard := some (29, false) }) (v := ?_) rfl (by kernel_rfl) (by kernel_rfl) (by kernel_rfl) (fun _ _ _ h => h) (Or.inl ⟨by rfl, ?_⟩) (by assumption) ?_
            rotate_left
            · intro y hSw
              obtain ⟨e0, e1, e2, e3, e4, e5, e6⟩ := hA.out _ hSw
              go_simp
              try with_reducible rfl
            try simp only [Act.put, List.setIfInBounds_toArray, List.set_cons_zero, List.set_cons_succ]
            refine wpAnyH_ready (rs := [32, 39]) (by kernel_rfl) (by simp) ?_
            refine AllReadyH.cons (o := { dst := some 99, op := Op.call { callee := Callee.value (Operand.func 15), args := #[Operand.tmp 98], argTypes := #[53] }, type := 9, pos := "law.go:99", after := #[{ on := 31, ground := Ground.data }, { on := 31, ground := Ground.chain }, { on := 29, ground := Ground.guard }], guard := some (29, false) }) rfl (fun K hK => ?_) ?_
            · go_simp
              refine (image_any SD.out.o1.bus.m).mono ?_
              rintro e x9 ⟨rfl, hn⟩
              rw [hI.out]
              replace SD := hide (SD.out.on hn)
              go_wp2_with fail
              refine hK.out _ _ (SD.out.o1.be) (fun hHeld => ?_)
              clear hK K
              try simp only [Act.put, List.setIfInBounds_toArray, List.set_cons_zero, List.set_cons_succ]
              clear hn
              refine wpAnyH_ready (rs := [39]) (by kernel_rfl) (by simp) ?_
              refine AllReadyH.cons (o := { dst := some 106, op := Op.load 55 (Operand.tmp 105), type := 55, pos := "law.go:99", after := #[{ on := 38, ground := Ground.data }, { on := 29, ground := Ground.guard }], guard := some (29, false) }) rfl (fun K hK => ?_) AllReadyH.nil
              have ld := SD.out.o2.bus.m.hb
              go_simp
              refine hK.out _ _ (SD.out.o1.be) (fun hHeld => ?_)
              clear hK K
              try simp only [Act.put, List.setIfInBounds_toArray, List.set_cons_zero, List.set_cons_succ]
              clear ld
              refine wpAnyH_ready (rs := [40]) (by kernel_rfl) (by simp) ?_
              refine AllReadyH.cons (o := { dst := some 107, op := Op.convert 55 9 (Operand.tmp 106), type := 9, pos := "law.go:99", after := #[{ on := 39, ground := Ground.data }, { on := 29, ground := Ground.guard }], guard := some (29, false) }) rfl (fun K hK => ?_) AllReadyH.nil
              have hcv := rtext SD.out.o2.bus.m
              rw [hI.out] at hcv
              go_simp
              refine hK.out _ _ (SD.out.o1.be) (fun hHeld => ?_)
              clear hK K
              try simp only [Act.put, List.setIfInBounds_toArray, List.set_cons_zero, List.set_cons_succ]
              clear hcv
              refine wpAnyH_take (i := 41) (oi := { dst := some 108, op := Op.binOp BinOp.neq 9 (Operand.tmp 99) (Operand.tmp 107) 9, type := 4, pos := "law.go:99", after := #[{ on := 32, ground := Ground.data }, { on := 40, ground := Ground.data }, { on := 29, ground := Ground.guard }], guard := some (29, false) }) (v := ?_) rfl (by kernel_rfl) (by kernel_rfl) (by kernel_rfl) (fun _ _ _ h => h) (Or.inl ⟨by rfl, ?_⟩) (by assumption) ?_
              rotate_left
              · intro y hSw
                obtain ⟨e0, e1, e2, e3, e4, e5, e6⟩ := hA.out _ hSw
                go_simp
                try with_reducible rfl
              try simp only [Act.put, List.setIfInBounds_toArray, List.set_cons_zero, List.set_cons_succ]
              refine wpAnyH_take (i := 42) (oi := { dst := some 109, op := Op.pick (Operand.tmp 96) (Operand.const (Value.bool true)) (Operand.tmp 108), type := 4, pos := "law.go:99", after := #[{ on := 29, ground := Ground.data }, { on := 41, ground := Ground.data }], guard := none }) (v := ?_) rfl (by kernel_rfl) (by kernel_rfl) (by kernel_rfl) (fun _ _ _ h => h) (Or.inl ⟨by rfl, ?_⟩) (by assumption) ?_
              rotate_left
              · intro y hSw
                obtain ⟨e0, e1, e2, e3, e4, e5, e6⟩ := hA.out _ hSw
                go_simp
                try with_reducible rfl
              try simp only [Act.put, List.setIfInBounds_toArray, List.set_cons_zero, List.set_cons_succ]
              refine wpAnyH_done (by kernel_rfl) ?_ _
              clear hHeld hneq
              go_wp2
              go_roundw
              case rel => exact ⟨k + 1, b, by omega, by go_num, rfl, hide ⟨_, _, _, _, _, _, SD.out⟩⟩
              case measure => simp [intOf]; omega
            refine AllReadyH.cons (o := { dst := some 106, op := Op.load 55 (Operand.tmp 105), type := 55, pos := "law.go:99", after := #[{ on := 38, ground := Ground.data }, { on := 29, ground := Ground.guard }], guard := some (29, false) }) rfl (fun K hK => ?_) AllReadyH.nil
            have ld := SD.out.o2.bus.m.hb
            go_simp
            refine hK.out _ _ (SD.out.o1.be) (fun hHeld => ?_)
            clear hK K
            try simp only [Act.put, List.setIfInBounds_toArray, List.set_cons_zero, List.set_cons_succ]
            clear ld
            refine wpAnyH_ready (rs := [32, 40]) (by kernel_rfl) (by simp) ?_
            refine AllReadyH.cons (o := { dst := some 99, op := Op.call { callee := Callee.value (Operand.func 15), args := #[Operand.tmp 98], argTypes := #[53] }, type := 9, pos := "law.go:99", after := #[{ on := 31, ground := Ground.data }, { on := 31, ground := Ground.chain }, { on := 29, ground := Ground.guard }], guard := some (29, false) }) rfl (fun K hK => ?_) ?_
            · go_simp
              refine (image_any SD.out.o1.bus.m).mono ?_
              rintro e x10 ⟨rfl, hn⟩
              rw [hI.out]
              replace SD := hide (SD.out.on hn)
              go_wp2_with fail
              refine hK.out _ _ (SD.out.o1.be) (fun hHeld => ?_)
              clear hK K
              try simp only [Act.put, List.setIfInBounds_toArray, List.set_cons_zero, List.set_cons_succ]
              clear hn
              refine wpAnyH_ready (rs := [40]) (by kernel_rfl) (by simp) ?_
              refine AllReadyH.cons (o := { dst := some 107, op := Op.convert 55 9 (Operand.tmp 106), type := 9, pos := "law.go:99", after := #[{ on := 39, ground := Ground.data }, { on := 29, ground := Ground.guard }], guard := some (29, false) }) rfl (fun K hK => ?_) AllReadyH.nil
              have hcv := rtext SD.out.o2.bus.m
              rw [hI.out] at hcv
              go_simp
              refine hK.out _ _ (SD.out.o1.be) (fun hHeld => ?_)
              clear hK K
              try simp only [Act.put, List.setIfInBounds_toArray, List.set_cons_zero, List.set_cons_succ]
              clear hcv
              refine wpAnyH_take (i := 41) (oi := { dst := some 108, op := Op.binOp BinOp.neq 9 (Operand.tmp 99) (Operand.tmp 107) 9, type := 4, pos := "law.go:99", after := #[{ on := 32, ground := Ground.data }, { on := 40, ground := Ground.data }, { on := 29, ground := Ground.guard }], guard := some (29, false) }) (v := ?_) rfl (by kernel_rfl) (by kernel_rfl) (by kernel_rfl) (fun _ _ _ h => h) (Or.inl ⟨by rfl, ?_⟩) (by assumption) ?_
              rotate_left
              · intro y hSw
                obtain ⟨e0, e1, e2, e3, e4, e5, e6⟩ := hA.out _ hSw
                go_simp
                try with_reducible rfl
              try simp only [Act.put, List.setIfInBounds_toArray, List.set_cons_zero, List.set_cons_succ]
              refine wpAnyH_take (i := 42) (oi := { dst := some 109, op := Op.pick (Operand.tmp 96) (Operand.const (Value.bool true)) (Operand.tmp 108), type := 4, pos := "law.go:99", after := #[{ on := 29, ground := Ground.data }, { on := 41, ground := Ground.data }], guard := none }) (v := ?_) rfl (by kernel_rfl) (by kernel_rfl) (by kernel_rfl) (fun _ _ _ h => h) (Or.inl ⟨by rfl, ?_⟩) (by assumption) ?_
              rotate_left
              · intro y hSw
                obtain ⟨e0, e1, e2, e3, e4, e5, e6⟩ := hA.out _ hSw
                go_simp
                try with_reducible rfl
              try simp only [Act.put, List.setIfInBounds_toArray, List.set_cons_zero, List.set_cons_succ]
              refine wpAnyH_done (by kernel_rfl) ?_ _
              clear hHeld hneq
              go_wp2
              go_roundw
              case rel => exact ⟨k + 1, b, by omega, by go_num, rfl, hide ⟨_, _, _, _, _, _, SD.out⟩⟩
              case measure => simp [intOf]; omega
            refine AllReadyH.cons (o := { dst := some 107, op := Op.convert 55 9 (Operand.tmp 106), type := 9, pos := "law.go:99", after := #[{ on := 39, ground := Ground.data }, { on := 29, ground := Ground.guard }], guard := some (29, false) }) rfl (fun K hK => ?_) AllReadyH.nil
            have hcv := rtext SD.out.o2.bus.m
            rw [hI.out] at hcv
            go_simp
            refine hK.out _ _ (SD.out.o1.be) (fun hHeld => ?_)
            clear hK K
            try simp only [Act.put, List.setIfInBounds_toArray, List.set_cons_zero, List.set_cons_succ]
            clear hcv
            refine wpAnyH_ready (rs := [32]) (by kernel_rfl) (by simp) ?_
            refine AllReadyH.cons (o := { dst := some 99, op := Op.call { callee := Callee.value (Operand.func 15), args := #[Operand.tmp 98], argTypes := #[53] }, type := 9, pos := "law.go:99", after := #[{ on := 31, ground := Ground.data }, { on := 31, ground := Ground.chain }, { on := 29, ground := Ground.guard }], guard := some (29, false) }) rfl (fun K hK => ?_) AllReadyH.nil
            go_simp
            refine (image_any SD.out.o1.bus.m).mono ?_
            rintro e x11 ⟨rfl, hn⟩
            rw [hI.out]
            replace SD := hide (SD.out.on hn)
            go_wp2_with fail
            refine hK.out _ _ (SD.out.o1.be) (fun hHeld => ?_)
            clear hK K
            try simp only [Act.put, List.setIfInBounds_toArray, List.set_cons_zero, List.set_cons_succ]
            clear hn
            refine wpAnyH_take (i := 41) (oi := { dst := some 108, op := Op.binOp BinOp.neq 9 (Operand.tmp 99) (Operand.tmp 107) 9, type := 4, pos := "law.go:99", after := #[{ on := 32, ground := Ground.data }, { on := 40, ground := Ground.data }, { on := 29, ground := Ground.guard }], guard := some (29, false) }) (v := ?_) rfl (by kernel_rfl) (by kernel_rfl) (by kernel_rfl) (fun _ _ _ h => h) (Or.inl ⟨by rfl, ?_⟩) (by assumption) ?_
            rotate_left
            · intro y hSw
              obtain ⟨e0, e1, e2, e3, e4, e5, e6⟩ := hA.out _ hSw
              go_simp
              try with_reducible rfl
            try simp only [Act.put, List.setIfInBounds_toArray, List.set_cons_zero, List.set_cons_succ]
            refine wpAnyH_take (i := 42) (oi := { dst := some 109, op := Op.pick (Operand.tmp 96) (Operand.const (Value.bool true)) (Operand.tmp 108), type := 4, pos := "law.go:99", after := #[{ on := 29, ground := Ground.data }, { on := 41, ground := Ground.data }], guard := none }) (v := ?_) rfl (by kernel_rfl) (by kernel_rfl) (by kernel_rfl) (fun _ _ _ h => h) (Or.inl ⟨by rfl, ?_⟩) (by assumption) ?_
            rotate_left
            · intro y hSw
              obtain ⟨e0, e1, e2, e3, e4, e5, e6⟩ := hA.out _ hSw
              go_simp
              try with_reducible rfl
            try simp only [Act.put, List.setIfInBounds_toArray, List.set_cons_zero, List.set_cons_succ]
            refine wpAnyH_done (by kernel_rfl) ?_ _
            clear hHeld hneq
            go_wp2
            go_roundw
            case rel => exact ⟨k + 1, b, by omega, by go_num, rfl, hide ⟨_, _, _, _, _, _, SD.out⟩⟩
            case measure => simp [intOf]; omega
          refine AllReadyH.cons (o := { dst := some 103, op := Op.load 44 (Operand.tmp 102), type := 44, pos := "law.go:99", after := #[{ on := 35, ground := Ground.data }, { on := 29, ground := Ground.guard }], guard := some (29, false) }) rfl (fun K hK => ?_) AllReadyH.nil
          have ld : x6.cell? ⟨b', 0, none⟩ = some (.pointer (some ⟨p', 0, none⟩)) := SD.out.o2.bus.cell 0
          go_simp
          refine hK.out _ _ (SD.out.o1.be) (fun hHeld => ?_)
          clear hK K
          try simp only [Act.put, List.setIfInBounds_toArray, List.set_cons_zero, List.set_cons_succ]
          clear ld
          refine wpAnyH_take (i := 37) (oi := { dst := some 104, op := Op.nilCheck (Operand.tmp 103), type := 0, pos := "law.go:99", after := #[{ on := 36, ground := Ground.data }, { on := 29, ground := Ground.guard }], guard := some (29, false) }) (v := ?_) rfl (by kernel_rfl) (by kernel_rfl) (by kernel_rfl) (fun _ _ _ h => h) (Or.inl ⟨by rfl, ?_⟩) (by assumption) ?_
          rotate_left
          · intro y hSw
            obtain ⟨e0, e1, e2, e3, e4, e5, e6⟩ := hA.out _ hSw
            go_simp
            try with_reducible rfl
          try simp only [Act.put, List.setIfInBounds_toArray, List.set_cons_zero, List.set_cons_succ]
          refine wpAnyH_take (i := 38) (oi := { dst := some 105, op := Op.fieldAddr 58 (Operand.tmp 104) 0, type := 0, pos := "law.go:99", after := #[{ on := 37, ground := Ground.data }, { on := 29, ground := Ground.guard }], guard := some (29, false) }) (v := ?_) rfl (by kernel_rfl) (by kernel_rfl) (by kernel_rfl) (fun _ _ _ h => h) (Or.inl ⟨by rfl, ?_⟩) (by assumption) ?_
          rotate_left
          · intro y hSw
            obtain ⟨e0, e1, e2, e3, e4, e5, e6⟩ := hA.out _ hSw
            go_simp
            try with_reducible rfl
          try simp only [Act.put, List.setIfInBounds_toArray, List.set_cons_zero, List.set_cons_succ]
          refine wpAnyH_ready (rs := [31, 39]) (by kernel_rfl) (by simp) ?_
          refine AllReadyH.cons (o := { dst := some 98, op := Op.call { callee := Callee.value (Operand.func 14), args := #[Operand.tmp 97], argTypes := #[23] }, type := 53, pos := "law.go:99", after := #[{ on := 30, ground := Ground.data }, { on := 29, ground := Ground.chain }, { on := 29, ground := Ground.guard }], guard := some (29, false) }) rfl (fun K hK => ?_) ?_
          · go_simp
            refine (memory_any SD.out.o1.bus).mono ?_
            rintro e x8 ⟨rfl, rfl⟩
            go_wp2_with fail
            refine hK.out _ _ (SD.out.o1.be) (fun hHeld => ?_)
            clear hK K
            try simp only [Act.put, List.setIfInBounds_toArray, List.set_cons_zero, List.set_cons_succ]
            refine wpAnyH_ready (rs := [32, 39]) (by kernel_rfl) (by simp) ?_
            refine AllReadyH.cons (o := { dst := some 99, op := Op.call { callee := Callee.value (Operand.func 15), args := #[Operand.tmp 98], argTypes := #[53] }, type := 9, pos := "law.go:99", after := #[{ on := 31, ground := Ground.data }, { on := 31, ground := Ground.chain }, { on := 29, ground := Ground.guard }], guard := some (29, false) }) rfl (fun K hK => ?_) ?_
            · go_simp
              refine (image_any SD.out.o1.bus.m).mono ?_
              rintro e x9 ⟨rfl, hn⟩
              rw [hI.out]
              replace SD := hide (SD.out.on hn)
              go_wp2_with fail
              refine hK.out _ _ (SD.out.o1.be) (fun hHeld => ?_)
              clear hK K
              try simp only [Act.put, List.setIfInBounds_toArray, List.set_cons_zero, List.set_cons_succ]
              clear hn
              refine wpAnyH_ready (rs := [39]) (by kernel_rfl) (by simp) ?_
              refine AllReadyH.cons (o := { dst := some 106, op := Op.load 55 (Operand.tmp 105), type := 55, pos := "law.go:99", after := #[{ on := 38, ground := Ground.data }, { on := 29, ground := Ground.guard }], guard := some (29, false) }) rfl (fun K hK => ?_) AllReadyH.nil
              have ld := SD.out.o2.bus.m.hb
              go_simp
              refine hK.out _ _ (SD.out.o1.be) (fun hHeld => ?_)
              clear hK K
              try simp only [Act.put, List.setIfInBounds_toArray, List.set_cons_zero, List.set_cons_succ]
              clear ld
              refine wpAnyH_ready (rs := [40]) (by kernel_rfl) (by simp) ?_
              refine AllReadyH.cons (o := { dst := some 107, op := Op.convert 55 9 (Operand.tmp 106), type := 9, pos := "law.go:99", after := #[{ on := 39, ground := Ground.data }, { on := 29, ground := Ground.guard }], guard := some (29, false) }) rfl (fun K hK => ?_) AllReadyH.nil
              have hcv := rtext SD.out.o2.bus.m
              rw [hI.out] at hcv
              go_simp
              refine hK.out _ _ (SD.out.o1.be) (fun hHeld => ?_)
              clear hK K
              try simp only [Act.put, List.setIfInBounds_toArray, List.set_cons_zero, List.set_cons_succ]
              clear hcv
              refine wpAnyH_take (i := 41) (oi := { dst := some 108, op := Op.binOp BinOp.neq 9 (Operand.tmp 99) (Operand.tmp 107) 9, type := 4, pos := "law.go:99", after := #[{ on := 32, ground := Ground.data }, { on := 40, ground := Ground.data }, { on := 29, ground := Ground.guard }], guard := some (29, false) }) (v := ?_) rfl (by kernel_rfl) (by kernel_rfl) (by kernel_rfl) (fun _ _ _ h => h) (Or.inl ⟨by rfl, ?_⟩) (by assumption) ?_
              rotate_left
              · intro y hSw
                obtain ⟨e0, e1, e2, e3, e4, e5, e6⟩ := hA.out _ hSw
                go_simp
                try with_reducible rfl
              try simp only [Act.put, List.setIfInBounds_toArray, List.set_cons_zero, List.set_cons_succ]
              refine wpAnyH_take (i := 42) (oi := { dst := some 109, op := Op.pick (Operand.tmp 96) (Operand.const (Value.bool true)) (Operand.tmp 108), type := 4, pos := "law.go:99", after := #[{ on := 29, ground := Ground.data }, { on := 41, ground := Ground.data }], guard := none }) (v := ?_) rfl (by kernel_rfl) (by kernel_rfl) (by kernel_rfl) (fun _ _ _ h => h) (Or.inl ⟨by rfl, ?_⟩) (by assumption) ?_
              rotate_left
              · intro y hSw
                obtain ⟨e0, e1, e2, e3, e4, e5, e6⟩ := hA.out _ hSw
                go_simp
                try with_reducible rfl
              try simp only [Act.put, List.setIfInBounds_toArray, List.set_cons_zero, List.set_cons_succ]
              refine wpAnyH_done (by kernel_rfl) ?_ _
              clear hHeld hneq
              go_wp2
              go_roundw
              case rel => exact ⟨k + 1, b, by omega, by go_num, rfl, hide ⟨_, _, _, _, _, _, SD.out⟩⟩
              case measure => simp [intOf]; omega
            refine AllReadyH.cons (o := { dst := some 106, op := Op.load 55 (Operand.tmp 105), type := 55, pos := "law.go:99", after := #[{ on := 38, ground := Ground.data }, { on := 29, ground := Ground.guard }], guard := some (29, false) }) rfl (fun K hK => ?_) AllReadyH.nil
            have ld := SD.out.o2.bus.m.hb
            go_simp
            refine hK.out _ _ (SD.out.o1.be) (fun hHeld => ?_)
            clear hK K
            try simp only [Act.put, List.setIfInBounds_toArray, List.set_cons_zero, List.set_cons_succ]
            clear ld
            refine wpAnyH_ready (rs := [32, 40]) (by kernel_rfl) (by simp) ?_
            refine AllReadyH.cons (o := { dst := some 99, op := Op.call { callee := Callee.value (Operand.func 15), args := #[Operand.tmp 98], argTypes := #[53] }, type := 9, pos := "law.go:99", after := #[{ on := 31, ground := Ground.data }, { on := 31, ground := Ground.chain }, { on := 29, ground := Ground.guard }], guard := some (29, false) }) rfl (fun K hK => ?_) ?_
            · go_simp
              refine (image_any SD.out.o1.bus.m).mono ?_
              rintro e x10 ⟨rfl, hn⟩
              rw [hI.out]
              replace SD := hide (SD.out.on hn)
              go_wp2_with fail
              refine hK.out _ _ (SD.out.o1.be) (fun hHeld => ?_)
              clear hK K
              try simp only [Act.put, List.setIfInBounds_toArray, List.set_cons_zero, List.set_cons_succ]
              clear hn
              refine wpAnyH_ready (rs := [40]) (by kernel_rfl) (by simp) ?_
              refine AllReadyH.cons (o := { dst := some 107, op := Op.convert 55 9 (Operand.tmp 106), type := 9, pos := "law.go:99", after := #[{ on := 39, ground := Ground.data }, { on := 29, ground := Ground.guard }], guard := some (29, false) }) rfl (fun K hK => ?_) AllReadyH.nil
              have hcv := rtext SD.out.o2.bus.m
              rw [hI.out] at hcv
              go_simp
              refine hK.out _ _ (SD.out.o1.be) (fun hHeld => ?_)
              clear hK K
              try simp only [Act.put, List.setIfInBounds_toArray, List.set_cons_zero, List.set_cons_succ]
              clear hcv
              refine wpAnyH_take (i := 41) (oi := { dst := some 108, op := Op.binOp BinOp.neq 9 (Operand.tmp 99) (Operand.tmp 107) 9, type := 4, pos := "law.go:99", after := #[{ on := 32, ground := Ground.data }, { on := 40, ground := Ground.data }, { on := 29, ground := Ground.guard }], guard := some (29, false) }) (v := ?_) rfl (by kernel_rfl) (by kernel_rfl) (by kernel_rfl) (fun _ _ _ h => h) (Or.inl ⟨by rfl, ?_⟩) (by assumption) ?_
              rotate_left
              · intro y hSw
                obtain ⟨e0, e1, e2, e3, e4, e5, e6⟩ := hA.out _ hSw
                go_simp
                try with_reducible rfl
              try simp only [Act.put, List.setIfInBounds_toArray, List.set_cons_zero, List.set_cons_succ]
              refine wpAnyH_take (i := 42) (oi := { dst := some 109, op := Op.pick (Operand.tmp 96) (Operand.const (Value.bool true)) (Operand.tmp 108), type := 4, pos := "law.go:99", after := #[{ on := 29, ground := Ground.data }, { on := 41, ground := Ground.data }], guard := none }) (v := ?_) rfl (by kernel_rfl) (by kernel_rfl) (by kernel_rfl) (fun _ _ _ h => h) (Or.inl ⟨by rfl, ?_⟩) (by assumption) ?_
              rotate_left
              · intro y hSw
                obtain ⟨e0, e1, e2, e3, e4, e5, e6⟩ := hA.out _ hSw
                go_simp
                try with_reducible rfl
              try simp only [Act.put, List.setIfInBounds_toArray, List.set_cons_zero, List.set_cons_succ]
              refine wpAnyH_done (by kernel_rfl) ?_ _
              clear hHeld hneq
              go_wp2
              go_roundw
              case rel => exact ⟨k + 1, b, by omega, by go_num, rfl, hide ⟨_, _, _, _, _, _, SD.out⟩⟩
              case measure => simp [intOf]; omega
            refine AllReadyH.cons (o := { dst := some 107, op := Op.convert 55 9 (Operand.tmp 106), type := 9, pos := "law.go:99", after := #[{ on := 39, ground := Ground.data }, { on := 29, ground := Ground.guard }], guard := some (29, false) }) rfl (fun K hK => ?_) AllReadyH.nil
            have hcv := rtext SD.out.o2.bus.m
            rw [hI.out] at hcv
            go_simp
            refine hK.out _ _ (SD.out.o1.be) (fun hHeld => ?_)
            clear hK K
            try simp only [Act.put, List.setIfInBounds_toArray, List.set_cons_zero, List.set_cons_succ]
            clear hcv
            refine wpAnyH_ready (rs := [32]) (by kernel_rfl) (by simp) ?_
            refine AllReadyH.cons (o := { dst := some 99, op := Op.call { callee := Callee.value (Operand.func 15), args := #[Operand.tmp 98], argTypes := #[53] }, type := 9, pos := "law.go:99", after := #[{ on := 31, ground := Ground.data }, { on := 31, ground := Ground.chain }, { on := 29, ground := Ground.guard }], guard := some (29, false) }) rfl (fun K hK => ?_) AllReadyH.nil
            go_simp
            refine (image_any SD.out.o1.bus.m).mono ?_
            rintro e x11 ⟨rfl, hn⟩
            rw [hI.out]
            replace SD := hide (SD.out.on hn)
            go_wp2_with fail
            refine hK.out _ _ (SD.out.o1.be) (fun hHeld => ?_)
            clear hK K
            try simp only [Act.put, List.setIfInBounds_toArray, List.set_cons_zero, List.set_cons_succ]
            clear hn
            refine wpAnyH_take (i := 41) (oi := { dst := some 108, op := Op.binOp BinOp.neq 9 (Operand.tmp 99) (Operand.tmp 107) 9, type := 4, pos := "law.go:99", after := #[{ on := 32, ground := Ground.data }, { on := 40, ground := Ground.data }, { on := 29, ground := Ground.guard }], guard := some (29, false) }) (v := ?_) rfl (by kernel_rfl) (by kernel_rfl) (by kernel_rfl) (fun _ _ _ h => h) (Or.inl ⟨by rfl, ?_⟩) (by assumption) ?_
            rotate_left
            · intro y hSw
              obtain ⟨e0, e1, e2, e3, e4, e5, e6⟩ := hA.out _ hSw
              go_simp
              try with_reducible rfl
            try simp only [Act.put, List.setIfInBounds_toArray, List.set_cons_zero, List.set_cons_succ]
            refine wpAnyH_take (i := 42) (oi := { dst := some 109, op := Op.pick (Operand.tmp 96) (Operand.const (Value.bool true)) (Operand.tmp 108), type := 4, pos := "law.go:99", after := #[{ on := 29, ground := Ground.data }, { on := 41, ground := Ground.data }], guard := none }) (v := ?_) rfl (by kernel_rfl) (by kernel_rfl) (by kernel_rfl) (fun _ _ _ h => h) (Or.inl ⟨by rfl, ?_⟩) (by assumption) ?_
            rotate_left
            · intro y hSw
              obtain ⟨e0, e1, e2, e3, e4, e5, e6⟩ := hA.out _ hSw
              go_simp
              try with_reducible rfl
            try simp only [Act.put, List.setIfInBounds_toArray, List.set_cons_zero, List.set_cons_succ]
            refine wpAnyH_done (by kernel_rfl) ?_ _
            clear hHeld hneq
            go_wp2
            go_roundw
            case rel => exact ⟨k + 1, b, by omega, by go_num, rfl, hide ⟨_, _, _, _, _, _, SD.out⟩⟩
            case measure => simp [intOf]; omega
          refine AllReadyH.cons (o := { dst := some 106, op := Op.load 55 (Operand.tmp 105), type := 55, pos := "law.go:99", after := #[{ on := 38, ground := Ground.data }, { on := 29, ground := Ground.guard }], guard := some (29, false) }) rfl (fun K hK => ?_) AllReadyH.nil
          have ld := SD.out.o2.bus.m.hb
          go_simp
          refine hK.out _ _ (SD.out.o1.be) (fun hHeld => ?_)
          clear hK K
          try simp only [Act.put, List.setIfInBounds_toArray, List.set_cons_zero, List.set_cons_succ]
          clear ld
          refine wpAnyH_ready (rs := [31, 40]) (by kernel_rfl) (by simp) ?_
          refine AllReadyH.cons (o := { dst := some 98, op := Op.call { callee := Callee.value (Operand.func 14), args := #[Operand.tmp 97], argTypes := #[23] }, type := 53, pos := "law.go:99", after := #[{ on := 30, ground := Ground.data }, { on := 29, ground := Ground.chain }, { on := 29, ground := Ground.guard }], guard := some (29, false) }) rfl (fun K hK => ?_) ?_
          · go_simp
            refine (memory_any SD.out.o1.bus).mono ?_
            rintro e x9 ⟨rfl, rfl⟩
            go_wp2_with fail
            refine hK.out _ _ (SD.out.o1.be) (fun hHeld => ?_)
            clear hK K
            try simp only [Act.put, List.setIfInBounds_toArray, List.set_cons_zero, List.set_cons_succ]
            refine wpAnyH_ready (rs := [32, 40]) (by kernel_rfl) (by simp) ?_
            refine AllReadyH.cons (o := { dst := some 99, op := Op.call { callee := Callee.value (Operand.func 15), args := #[Operand.tmp 98], argTypes := #[53] }, type := 9, pos := "law.go:99", after := #[{ on := 31, ground := Ground.data }, { on := 31, ground := Ground.chain }, { on := 29, ground := Ground.guard }], guard := some (29, false) }) rfl (fun K hK => ?_) ?_
            · go_simp
              refine (image_any SD.out.o1.bus.m).mono ?_
              rintro e x10 ⟨rfl, hn⟩
              rw [hI.out]
              replace SD := hide (SD.out.on hn)
              go_wp2_with fail
              refine hK.out _ _ (SD.out.o1.be) (fun hHeld => ?_)
              clear hK K
              try simp only [Act.put, List.setIfInBounds_toArray, List.set_cons_zero, List.set_cons_succ]
              clear hn
              refine wpAnyH_ready (rs := [40]) (by kernel_rfl) (by simp) ?_
              refine AllReadyH.cons (o := { dst := some 107, op := Op.convert 55 9 (Operand.tmp 106), type := 9, pos := "law.go:99", after := #[{ on := 39, ground := Ground.data }, { on := 29, ground := Ground.guard }], guard := some (29, false) }) rfl (fun K hK => ?_) AllReadyH.nil
              have hcv := rtext SD.out.o2.bus.m
              rw [hI.out] at hcv
              go_simp
              refine hK.out _ _ (SD.out.o1.be) (fun hHeld => ?_)
              clear hK K
              try simp only [Act.put, List.setIfInBounds_toArray, List.set_cons_zero, List.set_cons_succ]
              clear hcv
              refine wpAnyH_take (i := 41) (oi := { dst := some 108, op := Op.binOp BinOp.neq 9 (Operand.tmp 99) (Operand.tmp 107) 9, type := 4, pos := "law.go:99", after := #[{ on := 32, ground := Ground.data }, { on := 40, ground := Ground.data }, { on := 29, ground := Ground.guard }], guard := some (29, false) }) (v := ?_) rfl (by kernel_rfl) (by kernel_rfl) (by kernel_rfl) (fun _ _ _ h => h) (Or.inl ⟨by rfl, ?_⟩) (by assumption) ?_
              rotate_left
              · intro y hSw
                obtain ⟨e0, e1, e2, e3, e4, e5, e6⟩ := hA.out _ hSw
                go_simp
                try with_reducible rfl
              try simp only [Act.put, List.setIfInBounds_toArray, List.set_cons_zero, List.set_cons_succ]
              refine wpAnyH_take (i := 42) (oi := { dst := some 109, op := Op.pick (Operand.tmp 96) (Operand.const (Value.bool true)) (Operand.tmp 108), type := 4, pos := "law.go:99", after := #[{ on := 29, ground := Ground.data }, { on := 41, ground := Ground.data }], guard := none }) (v := ?_) rfl (by kernel_rfl) (by kernel_rfl) (by kernel_rfl) (fun _ _ _ h => h) (Or.inl ⟨by rfl, ?_⟩) (by assumption) ?_
              rotate_left
              · intro y hSw
                obtain ⟨e0, e1, e2, e3, e4, e5, e6⟩ := hA.out _ hSw
                go_simp
                try with_reducible rfl
              try simp only [Act.put, List.setIfInBounds_toArray, List.set_cons_zero, List.set_cons_succ]
              refine wpAnyH_done (by kernel_rfl) ?_ _
              clear hHeld hneq
              go_wp2
              go_roundw
              case rel => exact ⟨k + 1, b, by omega, by go_num, rfl, hide ⟨_, _, _, _, _, _, SD.out⟩⟩
              case measure => simp [intOf]; omega
            refine AllReadyH.cons (o := { dst := some 107, op := Op.convert 55 9 (Operand.tmp 106), type := 9, pos := "law.go:99", after := #[{ on := 39, ground := Ground.data }, { on := 29, ground := Ground.guard }], guard := some (29, false) }) rfl (fun K hK => ?_) AllReadyH.nil
            have hcv := rtext SD.out.o2.bus.m
            rw [hI.out] at hcv
            go_simp
            refine hK.out _ _ (SD.out.o1.be) (fun hHeld => ?_)
            clear hK K
            try simp only [Act.put, List.setIfInBounds_toArray, List.set_cons_zero, List.set_cons_succ]
            clear hcv
            refine wpAnyH_ready (rs := [32]) (by kernel_rfl) (by simp) ?_
            refine AllReadyH.cons (o := { dst := some 99, op := Op.call { callee := Callee.value (Operand.func 15), args := #[Operand.tmp 98], argTypes := #[53] }, type := 9, pos := "law.go:99", after := #[{ on := 31, ground := Ground.data }, { on := 31, ground := Ground.chain }, { on := 29, ground := Ground.guard }], guard := some (29, false) }) rfl (fun K hK => ?_) AllReadyH.nil
            go_simp
            refine (image_any SD.out.o1.bus.m).mono ?_
            rintro e x11 ⟨rfl, hn⟩
            rw [hI.out]
            replace SD := hide (SD.out.on hn)
            go_wp2_with fail
            refine hK.out _ _ (SD.out.o1.be) (fun hHeld => ?_)
            clear hK K
            try simp only [Act.put, List.setIfInBounds_toArray, List.set_cons_zero, List.set_cons_succ]
            clear hn
            refine wpAnyH_take (i := 41) (oi := { dst := some 108, op := Op.binOp BinOp.neq 9 (Operand.tmp 99) (Operand.tmp 107) 9, type := 4, pos := "law.go:99", after := #[{ on := 32, ground := Ground.data }, { on := 40, ground := Ground.data }, { on := 29, ground := Ground.guard }], guard := some (29, false) }) (v := ?_) rfl (by kernel_rfl) (by kernel_rfl) (by kernel_rfl) (fun _ _ _ h => h) (Or.inl ⟨by rfl, ?_⟩) (by assumption) ?_
            rotate_left
            · intro y hSw
              obtain ⟨e0, e1, e2, e3, e4, e5, e6⟩ := hA.out _ hSw
              go_simp
              try with_reducible rfl
            try simp only [Act.put, List.setIfInBounds_toArray, List.set_cons_zero, List.set_cons_succ]
            refine wpAnyH_take (i := 42) (oi := { dst := some 109, op := Op.pick (Operand.tmp 96) (Operand.const (Value.bool true)) (Operand.tmp 108), type := 4, pos := "law.go:99", after := #[{ on := 29, ground := Ground.data }, { on := 41, ground := Ground.data }], guard := none }) (v := ?_) rfl (by kernel_rfl) (by kernel_rfl) (by kernel_rfl) (fun _ _ _ h => h) (Or.inl ⟨by rfl, ?_⟩) (by assumption) ?_
            rotate_left
            · intro y hSw
              obtain ⟨e0, e1, e2, e3, e4, e5, e6⟩ := hA.out _ hSw
              go_simp
              try with_reducible rfl
            try simp only [Act.put, List.setIfInBounds_toArray, List.set_cons_zero, List.set_cons_succ]
            refine wpAnyH_done (by kernel_rfl) ?_ _
            clear hHeld hneq
            go_wp2
            go_roundw
            case rel => exact ⟨k + 1, b, by omega, by go_num, rfl, hide ⟨_, _, _, _, _, _, SD.out⟩⟩
            case measure => simp [intOf]; omega
          refine AllReadyH.cons (o := { dst := some 107, op := Op.convert 55 9 (Operand.tmp 106), type := 9, pos := "law.go:99", after := #[{ on := 39, ground := Ground.data }, { on := 29, ground := Ground.guard }], guard := some (29, false) }) rfl (fun K hK => ?_) AllReadyH.nil
          have hcv := rtext SD.out.o2.bus.m
          rw [hI.out] at hcv
          go_simp
          refine hK.out _ _ (SD.out.o1.be) (fun hHeld => ?_)
          clear hK K
          try simp only [Act.put, List.setIfInBounds_toArray, List.set_cons_zero, List.set_cons_succ]
          clear hcv
          refine wpAnyH_ready (rs := [31]) (by kernel_rfl) (by simp) ?_
          refine AllReadyH.cons (o := { dst := some 98, op := Op.call { callee := Callee.value (Operand.func 14), args := #[Operand.tmp 97], argTypes := #[23] }, type := 53, pos := "law.go:99", after := #[{ on := 30, ground := Ground.data }, { on := 29, ground := Ground.chain }, { on := 29, ground := Ground.guard }], guard := some (29, false) }) rfl (fun K hK => ?_) AllReadyH.nil
          go_simp
          refine (memory_any SD.out.o1.bus).mono ?_
          rintro e x10 ⟨rfl, rfl⟩
          go_wp2_with fail
          refine hK.out _ _ (SD.out.o1.be) (fun hHeld => ?_)
          clear hK K
          try simp only [Act.put, List.setIfInBounds_toArray, List.set_cons_zero, List.set_cons_succ]
          refine wpAnyH_ready (rs := [32]) (by kernel_rfl) (by simp) ?_
          refine AllReadyH.cons (o := { dst := some 99, op := Op.call { callee := Callee.value (Operand.func 15), args := #[Operand.tmp 98], argTypes := #[53] }, type := 9, pos := "law.go:99", after := #[{ on := 31, ground := Ground.data }, { on := 31, ground := Ground.chain }, { on := 29, ground := Ground.guard }], guard := some (29, false) }) rfl (fun K hK => ?_) AllReadyH.nil
          go_simp
          refine (image_any SD.out.o1.bus.m).mono ?_
          rintro e x11 ⟨rfl, hn⟩
          rw [hI.out]
          replace SD := hide (SD.out.on hn)
          go_wp2_with fail
          refine hK.out _ _ (SD.out.o1.be) (fun hHeld => ?_)
          clear hK K
          try simp only [Act.put, List.setIfInBounds_toArray, List.set_cons_zero, List.set_cons_succ]
          clear hn
          refine wpAnyH_take (i := 41) (oi := { dst := some 108, op := Op.binOp BinOp.neq 9 (Operand.tmp 99) (Operand.tmp 107) 9, type := 4, pos := "law.go:99", after := #[{ on := 32, ground := Ground.data }, { on := 40, ground := Ground.data }, { on := 29, ground := Ground.guard }], guard := some (29, false) }) (v := ?_) rfl (by kernel_rfl) (by kernel_rfl) (by kernel_rfl) (fun _ _ _ h => h) (Or.inl ⟨by rfl, ?_⟩) (by assumption) ?_
          rotate_left
          · intro y hSw
            obtain ⟨e0, e1, e2, e3, e4, e5, e6⟩ := hA.out _ hSw
            go_simp
            try with_reducible rfl
          try simp only [Act.put, List.setIfInBounds_toArray, List.set_cons_zero, List.set_cons_succ]
          refine wpAnyH_take (i := 42) (oi := { dst := some 109, op := Op.pick (Operand.tmp 96) (Operand.const (Value.bool true)) (Operand.tmp 108), type := 4, pos := "law.go:99", after := #[{ on := 29, ground := Ground.data }, { on := 41, ground := Ground.data }], guard := none }) (v := ?_) rfl (by kernel_rfl) (by kernel_rfl) (by kernel_rfl) (fun _ _ _ h => h) (Or.inl ⟨by rfl, ?_⟩) (by assumption) ?_
          rotate_left
          · intro y hSw
            obtain ⟨e0, e1, e2, e3, e4, e5, e6⟩ := hA.out _ hSw
            go_simp
            try with_reducible rfl
          try simp only [Act.put, List.setIfInBounds_toArray, List.set_cons_zero, List.set_cons_succ]
          refine wpAnyH_done (by kernel_rfl) ?_ _
          clear hHeld hneq
          go_wp2
          go_roundw
          case rel => exact ⟨k + 1, b, by omega, by go_num, rfl, hide ⟨_, _, _, _, _, _, SD.out⟩⟩
          case measure => simp [intOf]; omega
        refine AllReadyH.cons (o := { dst := some 88, op := Op.load 42 (Operand.tmp 87), type := 42, pos := "law.go:99", after := #[{ on := 20, ground := Ground.data }, { on := 15, ground := Ground.guard }], guard := some (15, false) }) rfl (fun K hK => ?_) AllReadyH.nil
        have ld : (loadCellsFrom ⟨b', 7, none⟩ 0 Dm.N5 #[]).run Tryz.prog x3 = .ok (Dm.cellsD v'.d) x3 := Box.loads (c := cellsM v' p') ⟨SD.out.o2.bus.row, SD.out.o2.bus.at', SD.out.o2.bus.lt⟩ 7 _ rfl rfl
        go_simp
        refine hK.out _ _ (SD.out.o1.be) (fun hHeld => ?_)
        clear hK K
        try simp only [Act.put, List.setIfInBounds_toArray, List.set_cons_zero, List.set_cons_succ]
        clear ld
        refine wpAnyH_ready (rs := [17]) (by kernel_rfl) (by simp) ?_
        refine AllReadyH.cons (o := { dst := some 84, op := Op.call { callee := Callee.value (Operand.func 13), args := #[Operand.tmp 83], argTypes := #[23] }, type := 42, pos := "law.go:99", after := #[{ on := 16, ground := Ground.data }, { on := 15, ground := Ground.chain }, { on := 15, ground := Ground.guard }], guard := some (15, false) }) rfl (fun K hK => ?_) AllReadyH.nil
        go_simp
        refine (dma_any SD.out.o1.bus).mono ?_
        rintro e x5 ⟨rfl, hn⟩
        replace SD := hide (SD.out.on hn)
        go_wp2_with fail
        refine hK.out _ _ (SD.out.o1.be) (fun hHeld => ?_)
        clear hK K
        try simp only [Act.put, List.setIfInBounds_toArray, List.set_cons_zero, List.set_cons_succ]
        clear hn
        refine wpAnyH_take (i := 22) (oi := { dst := some 89, op := Op.binOp BinOp.neq 42 (Operand.tmp 84) (Operand.tmp 88) 42, type := 4, pos := "law.go:99", after := #[{ on := 17, ground := Ground.data }, { on := 21, ground := Ground.data }, { on := 15, ground := Ground.guard }], guard := some (15, false) }) (v := ?_) rfl (by kernel_rfl) (by kernel_rfl) (by kernel_rfl) (fun _ _ _ h => h) (Or.inl ⟨by rfl, ?_⟩) (by assumption) ?_
        rotate_left
        · intro y hSw
          obtain ⟨e0, e1, e2, e3, e4, e5, e6⟩ := hA.out _ hSw
          go_simp
          try with_reducible rfl
        try simp only [Act.put, List.setIfInBounds_toArray, List.set_cons_zero, List.set_cons_succ]
        refine wpAnyH_take (i := 23) (oi := { dst := some 90, op := Op.pick (Operand.tmp 82) (Operand.const (Value.bool true)) (Operand.tmp 89), type := 4, pos := "law.go:99", after := #[{ on := 15, ground := Ground.data }, { on := 22, ground := Ground.data }], guard := none }) (v := ?_) rfl (by kernel_rfl) (by kernel_rfl) (by kernel_rfl) (fun _ _ _ h => h) (Or.inl ⟨by rfl, ?_⟩) (by assumption) ?_
        rotate_left
        · intro y hSw
          obtain ⟨e0, e1, e2, e3, e4, e5, e6⟩ := hA.out _ hSw
          go_simp
          try with_reducible rfl
        try simp only [Act.put, List.setIfInBounds_toArray, List.set_cons_zero, List.set_cons_succ]
        refine wpAnyH_take (i := 24) (oi := { dst := some 91, op := Op.move (Operand.tmp 90), type := 4, pos := "law.go:99", after := #[{ on := 23, ground := Ground.data }, { on := 17, ground := Ground.chain }], guard := none }) (v := ?_) rfl (by kernel_rfl) (by kernel_rfl) (by kernel_rfl) (fun _ _ _ h => h) (Or.inl ⟨by rfl, ?_⟩) (by assumption) ?_
        rotate_left
        · intro y hSw
          obtain ⟨e0, e1, e2, e3, e4, e5, e6⟩ := hA.out _ hSw
          go_simp
          try with_reducible rfl
        try simp only [Act.put, List.setIfInBounds_toArray, List.set_cons_zero, List.set_cons_succ]
        refine wpAnyH_take (i := 25) (oi := { dst := some 92, op := Op.move (Operand.tmp 6), type := 23, pos := "law.go:99", after := #[{ on := 24, ground := Ground.guard }], guard := some (24, false) }) (v := ?_) rfl (by kernel_rfl) (by kernel_rfl) (by kernel_rfl) (fun _ _ _ h => h) (Or.inl ⟨by rfl, ?_⟩) (by assumption) ?_
        rotate_left
        · intro y hSw
          obtain ⟨e0, e1, e2, e3, e4, e5, e6⟩ := hA.out _ hSw
          go_simp
          try with_reducible rfl
        try simp only [Act.put, List.setIfInBounds_toArray, List.set_cons_zero, List.set_cons_succ]
        refine wpAnyH_ready (rs := [26]) (by kernel_rfl) (by simp) ?_
        refine AllReadyH.cons (o := { dst := some 93, op := Op.call { callee := Callee.value (Operand.func 14), args := #[Operand.tmp 92], argTypes := #[23] }, type := 53, pos := "law.go:99", after := #[{ on := 25, ground := Ground.data }, { on := 24, ground := Ground.chain }, { on := 24, ground := Ground.guard }], guard := some (24, false) }) rfl (fun K hK => ?_) AllReadyH.nil
        go_simp
        refine (memory_any SD.out.o1.bus).mono ?_
        rintro e x6 ⟨rfl, rfl⟩
        go_wp2_with fail
        refine hK.out _ _ (SD.out.o1.be) (fun hHeld => ?_)
        clear hK K
        try simp only [Act.put, List.setIfInBounds_toArray, List.set_cons_zero, List.set_cons_succ]
        refine wpAnyH_take (i := 27) (oi := { dst := some 94, op := Op.binOp BinOp.eql 53 (Operand.tmp 93) (Operand.const (Value.pointer none)) 53, type := 4, pos := "law.go:99", after := #[{ on := 26, ground := Ground.data }, { on := 24, ground := Ground.guard }], guard := some (24, false) }) (v := ?_) rfl (by kernel_rfl) (by kernel_rfl) (by kernel_rfl) (fun _ _ _ h => h) (Or.inl ⟨by rfl, ?_⟩) (by assumption) ?_
        rotate_left
        · intro y hSw
          obtain ⟨e0, e1, e2, e3, e4, e5, e6⟩ := hA.out _ hSw
          go_simp
          try with_reducible rfl
        try simp only [Act.put, List.setIfInBounds_toArray, List.set_cons_zero, List.set_cons_succ]
        refine wpAnyH_take (i := 28) (oi := { dst := some 95, op := Op.pick (Operand.tmp 91) (Operand.const (Value.bool true)) (Operand.tmp 94), type := 4, pos := "law.go:99", after := #[{ on := 24, ground := Ground.data }, { on := 27, ground := Ground.data }], guard := none }) (v := ?_) rfl (by kernel_rfl) (by kernel_rfl) (by kernel_rfl) (fun _ _ _ h => h) (Or.inl ⟨by rfl, ?_⟩) (by assumption) ?_
        rotate_left
        · intro y hSw
          obtain ⟨e0, e1, e2, e3, e4, e5, e6⟩ := hA.out _ hSw
          go_simp
          try with_reducible rfl
        try simp only [Act.put, List.setIfInBounds_toArray, List.set_cons_zero, List.set_cons_succ]
        refine wpAnyH_take (i := 29) (oi := { dst := some 96, op := Op.move (Operand.tmp 95), type := 4, pos := "law.go:99", after := #[{ on := 28, ground := Ground.data }, { on := 26, ground := Ground.chain }], guard := none }) (v := ?_) rfl (by kernel_rfl) (by kernel_rfl) (by kernel_rfl) (fun _ _ _ h => h) (Or.inl ⟨by rfl, ?_⟩) (by assumption) ?_
        rotate_left
        · intro y hSw
          obtain ⟨e0, e1, e2, e3, e4, e5, e6⟩ := hA.out _ hSw
          go_simp
          try with_reducible rfl
        try simp only [Act.put, List.setIfInBounds_toArray, List.set_cons_zero, List.set_cons_succ]
        refine wpAnyH_take (i := 30) (oi := { dst := some 97, op := Op.move (Operand.tmp 6), type := 23, pos := "law.go:99", after := #[{ on := 29, ground := Ground.guard }], guard := some (29, false) }) (v := ?_) rfl (by kernel_rfl) (by kernel_rfl) (by kernel_rfl) (fun _ _ _ h => h) (Or.inl ⟨by rfl, ?_⟩) (by assumption) ?_
        rotate_left
        · intro y hSw
          obtain ⟨e0, e1, e2, e3, e4, e5, e6⟩ := hA.out _ hSw
          go_simp
          try with_reducible rfl
        try simp only [Act.put, List.setIfInBounds_toArray, List.set_cons_zero, List.set_cons_succ]
        refine wpAnyH_take (i := 33) (oi := { dst := some 100, op := Op.move (Operand.tmp 8), type := 27, pos := "law.go:99", after := #[{ on := 29, ground := Ground.guard }], guard := some (29, false) }) (v := ?_) rfl (by kernel_rfl) (by kernel_rfl) (by kernel_rfl) (fun _ _ _ h => h) (Or.inl ⟨by rfl, ?_⟩) (by assumption) ?_
        rotate_left
        · intro y hSw
          obtain ⟨e0, e1, e2, e3, e4, e5, e6⟩ := hA.out _ hSw
          go_simp
          try with_reducible rfl
        try simp only [Act.put, List.setIfInBounds_toArray, List.set_cons_zero, List.set_cons_succ]
        refine wpAnyH_take (i := 34) (oi := { dst := some 101, op := Op.nilCheck (Operand.tmp 100), type := 0, pos := "law.go:99", after := #[{ on := 33, ground := Ground.data }, { on := 29, ground := Ground.guard }], guard := some (29, false) }) (v := ?_) rfl (by kernel_rfl) (by kernel_rfl) (by kernel_rfl) (fun _ _ _ h => h) (Or.inl ⟨by rfl, ?_⟩) (by assumption) ?_
        rotate_left
        · intro y hSw
          obtain ⟨e0, e1, e2, e3, e4, e5, e6⟩ := hA.out _ hSw
          go_simp
          try with_reducible rfl
        try simp only [Act.put, List.setIfInBounds_toArray, List.set_cons_zero, List.set_cons_succ]
        refine wpAnyH_take (i := 35) (oi := { dst := some 102, op := Op.fieldAddr 52 (Operand.tmp 101) 0, type := 0, pos := "law.go:99", after := #[{ on := 34, ground := Ground.data }, { on := 29, ground := Ground.guard }], guard := some (29, false) }) (v := ?_) rfl (by kernel_rfl) (by kernel_rfl) (by kernel_rfl) (fun _ _ _ h => h) (Or.inl ⟨by rfl, ?_⟩) (by assumption) ?_
        rotate_left
        · intro y hSw
          obtain ⟨e0, e1, e2, e3, e4, e5, e6⟩ := hA.out _ hSw
          go_simp
          try with_reducible rfl
        try simp only [Act.put, List.setIfInBounds_toArray, List.set_cons_zero, List.set_cons_succ]
        refine wpAnyH_ready (rs := [31, 36]) (by kernel_rfl) (by simp) ?_
        refine AllReadyH.cons (o := { dst := some 98, op := Op.call { callee := Callee.value (Operand.func 14), args := #[Operand.tmp 97], argTypes := #[23] }, type := 53, pos := "law.go:99", after := #[{ on := 30, ground := Ground.data }, { on := 29, ground := Ground.chain }, { on := 29, ground := Ground.guard }], guard := some (29, false) }) rfl (fun K hK => ?_) ?_
        · go_simp
          refine (memory_any SD.out.o1.bus).mono ?_
          rintro e x7 ⟨rfl, rfl⟩
          go_wp2_with fail
          refine hK.out _ _ (SD.out.o1.be) (fun hHeld => ?_)
          clear hK K
          try simp only [Act.put, List.setIfInBounds_toArray, List.set_cons_zero, List.set_cons_succ]
          refine wpAnyH_ready (rs := [32, 36]) (by kernel_rfl) (by simp) ?_
          refine AllReadyH.cons (o := { dst := some 99, op := Op.call { callee := Callee.value (Operand.func 15), args := #[Operand.tmp 98], argTypes := #[53] }, type := 9, pos := "law.go:99", after := #[{ on := 31, ground := Ground.data }, { on := 31, ground := Ground.chain }, { on := 29, ground := Ground.guard }], guard := some (29, false) }) rfl (fun K hK => ?_) ?_
          · go_simp
            refine (image_any SD.out.o1.bus.m).mono ?_
            rintro e x8 ⟨rfl, hn⟩
            rw [hI.out]
            replace SD := hide (SD.out.on hn)
            go_wp2_with fail
            refine hK.out _ _ (SD.out.o1.be) (fun hHeld => ?_)
            clear hK K
            try simp only [Act.put, List.setIfInBounds_toArray, List.set_cons_zero, List.set_cons_succ]
            clear hn
            refine wpAnyH_ready (rs := [36]) (by kernel_rfl) (by simp) ?_
            refine AllReadyH.cons (o := { dst := some 103, op := Op.load 44 (Operand.tmp 102), type := 44, pos := "law.go:99", after := #[{ on := 35, ground := Ground.data }, { on := 29, ground := Ground.guard }], guard := some (29, false) }) rfl (fun K hK => ?_) AllReadyH.nil
            have ld : x8.cell? ⟨b', 0, none⟩ = some (.pointer (some ⟨p', 0, none⟩)) := SD.out.o2.bus.cell 0
            go_simp
            refine hK.out _ _ (SD.out.o1.be) (fun hHeld => ?_)
            clear hK K
            try simp only [Act.put, List.setIfInBounds_toArray, List.set_cons_zero, List.set_cons_succ]
            clear ld
            refine wpAnyH_take (i := 37) (oi := { dst := some 104, op := Op.nilCheck (Operand.tmp 103), type := 0, pos := "law.go:99", after := #[{ on := 36, ground := Ground.data }, { on := 29, ground := Ground.guard }], guard := some (29, false) }) (v := ?_) rfl (by kernel_rfl) (by kernel_rfl) (by kernel_rfl) (fun _ _ _ h => h) (Or.inl ⟨by rfl, ?_⟩) (by assumption) ?_
            rotate_left
            · intro y hSw
              obtain ⟨e0, e1, e2, e3, e4, e5, e6⟩ := hA.out _ hSw
              go_simp
              try with_reducible rfl
            try simp only [Act.put, List.setIfInBounds_toArray, List.set_cons_zero, List.set_cons_succ]
            refine wpAnyH_take (i := 38) (oi := { dst := some 105, op := Op.fieldAddr 58 (Operand.tmp 104) 0, type := 0, pos := "law.go:99", after := #[{ on := 37, ground := Ground.data }, { on := 29, ground := Ground.guard }], guard := some (29, false) }) (v := ?_) rfl (by kernel_rfl) (by kernel_rfl) (by kernel_rfl) (fun _ _ _ h => h) (Or.inl ⟨by rfl, ?_⟩) (by assumption) ?_
            rotate_left
            · intro y hSw
              obtain ⟨e0, e1, e2, e3, e4, e5, e6⟩ := hA.out _ hSw
              go_simp
              try with_reducible rfl
            try simp only [Act.put, List.setIfInBounds_toArray, List.set_cons_zero, List.set_cons_succ]
            refine wpAnyH_ready (rs := [39]) (by kernel_rfl) (by simp) ?_
            refine AllReadyH.cons (o := { dst := some 106, op := Op.load 55 (Operand.tmp 105), type := 55, pos := "law.go:99", after := #[{ on := 38, ground := Ground.data }, { on := 29, ground := Ground.guard }], guard := some (29, false) }) rfl (fun K hK => ?_) AllReadyH.nil
            have ld := SD.out.o2.bus.m.hb
            go_simp
            refine hK.out _ _ (SD.out.o1.be) (fun hHeld => ?_)
            clear hK K
            try simp only [Act.put, List.setIfInBounds_toArray, List.set_cons_zero, List.set_cons_succ]
            clear ld
            refine wpAnyH_ready (rs := [40]) (by kernel_rfl) (by simp) ?_
            refine AllReadyH.cons (o := { dst := some 107, op := Op.convert 55 9 (Operand.tmp 106), type := 9, pos := "law.go:99", after := #[{ on := 39, ground := Ground.data }, { on := 29, ground := Ground.guard }], guard := some (29, false) }) rfl (fun K hK => ?_) AllReadyH.nil
            have hcv := rtext SD.out.o2.bus.m
            rw [hI.out] at hcv
            go_simp
            refine hK.out _ _ (SD.out.o1.be) (fun hHeld => ?_)
            clear hK K
            try simp only [Act.put, List.setIfInBounds_toArray, List.set_cons_zero, List.set_cons_succ]
            clear hcv
            refine wpAnyH_take (i := 41) (oi := { dst := some 108, op := Op.binOp BinOp.neq 9 (Operand.tmp 99) (Operand.tmp 107) 9, type := 4, pos := "law.go:99", after := #[{ on := 32, ground := Ground.data }, { on := 40, ground := Ground.data }, { on := 29, ground := Ground.guard }], guard := some (29, false) }) (v := ?_) rfl (by kernel_rfl) (by kernel_rfl) (by kernel_rfl) (fun _ _ _ h => h) (Or.inl ⟨by rfl, ?_⟩) (by assumption) ?_
            rotate_left
            · intro y hSw
              obtain ⟨e0, e1, e2, e3, e4, e5, e6⟩ := hA.out _ hSw
              go_simp
              try with_reducible rfl
            try simp only [Act.put, List.setIfInBounds_toArray, List.set_cons_zero, List.set_cons_succ]
            refine wpAnyH_take (i := 42) (oi := { dst := some 109, op := Op.pick (Operand.tmp 96) (Operand.const (Value.bool true)) (Operand.tmp 108), type := 4, pos := "law.go:99", after := #[{ on := 29, ground := Ground.data }, { on := 41, ground := Ground.data }], guard := none }) (v := ?_) rfl (by kernel_rfl) (by kernel_rfl) (by kernel_rfl) (fun _ _ _ h => h) (Or.inl ⟨by rfl, ?_⟩) (by assumption) ?_
            rotate_left
            · intro y hSw
              obtain ⟨e0, e1, e2, e3, e4, e5, e6⟩ := hA.out _ hSw
              go_simp
              try with_reducible rfl
            try simp only [Act.put, List.setIfInBounds_toArray, List.set_cons_zero, List.set_cons_succ]
            refine wpAnyH_done (by kernel_rfl) ?_ _
            clear hHeld hneq
            go_wp2
            go_roundw
            case rel => exact ⟨k + 1, b, by omega, by go_num, rfl, hide ⟨_, _, _, _, _, _, SD.out⟩⟩
            case measure => simp [intOf]; omega
          refine AllReadyH.cons (o := { dst := some 103, op := Op.load 44 (Operand.tmp 102), type := 44, pos := "law.go:99", after := #[{ on := 35, ground := Ground.data }, { on := 29, ground := Ground.guard }], guard := some (29, false) }) rfl (fun K hK => ?_) AllReadyH.nil
          have ld : x7.cell? ⟨b', 0, none⟩ = some (.pointer (some ⟨p', 0, none⟩)) := SD.out.o2.bus.cell 0
          go_simp
          refine hK.out _ _ (SD.out.o1.be) (fun hHeld => ?_)
          clear hK K
          try simp only [Act.put, List.setIfInBounds_toArray, List.set_cons_zero, List.set_cons_succ]
          clear ld
          refine wpAnyH_take (i := 37) (oi := { dst := some 104, op := Op.nilCheck (Operand.tmp 103), type := 0, pos := "law.go:99", after := #[{ on := 36, ground := Ground.data }, { on := 29, ground := Ground.guard }], guard := some (29, false) }) (v := ?_) rfl (by kernel_rfl) (by kernel_rfl) (by kernel_rfl) (fun _ _ _ h => h) (Or.inl ⟨by rfl, ?_⟩) (by assumption) ?_
          rotate_left
          · intro y hSw
            obtain ⟨e0, e1, e2, e3, e4, e5, e6⟩ := hA.out _ hSw
            go_simp
            try with_reducible rfl
          try simp only [Act.put, List.setIfInBounds_toArray, List.set_cons_zero, List.set_cons_succ]
          refine wpAnyH_take (i := 38) (oi := { dst := some 105, op := Op.fieldAddr 58 (Operand.tmp 104) 0, type := 0, pos := "law.go:99", after := #[{ on := 37, ground := Ground.data }, { on := 29, ground := Ground.guard }], guard := some (29, false) }) (v := ?_) rfl (by kernel_rfl) (by kernel_rfl) (by kernel_rfl) (fun _ _ _ h => h) (Or.inl ⟨by rfl, ?_⟩) (by assumption) ?_
          rotate_left
          · intro y hSw
            obtain ⟨e0, e1, e2, e3, e4, e5, e6⟩ := hA.out _ hSw
            go_simp
            try with_reducible rfl
          try simp only [Act.put, List.setIfInBounds_toArray, List.set_cons_zero, List.set_cons_succ]
          refine wpAnyH_ready (rs := [32, 39]) (by kernel_rfl) (by simp) ?_
          refine AllReadyH.cons (o := { dst := some 99, op := Op.call { callee := Callee.value (Operand.func 15), args := #[Operand.tmp 98], argTypes := #[53] }, type := 9, pos := "law.go:99", after := #[{ on := 31, ground := Ground.data }, { on := 31, ground := Ground.chain }, { on := 29, ground := Ground.guard }], guard := some (29, false) }) rfl (fun K hK => ?_) ?_
          · go_simp
            refine (image_any SD.out.o1.bus.m).mono ?_
            rintro e x9 ⟨rfl, hn⟩
            rw [hI.out]
            replace SD := hide (SD.out.on hn)
            go_wp2_with fail
            refine hK.out _ _ (SD.out.o1.be) (fun hHeld => ?_)
            clear hK K
            try simp only [Act.put, List.setIfInBounds_toArray, List.set_cons_zero, List.set_cons_succ]
            clear hn
            refine wpAnyH_ready (rs := [39]) (by kernel_rfl) (by simp) ?_
            refine AllReadyH.cons (o := { dst := some 106, op := Op.load 55 (Operand.tmp 105), type := 55, pos := "law.go:99", after := #[{ on := 38, ground := Ground.data }, { on := 29, ground := Ground.guard }], guard := some (29, false) }) rfl (fun K hK => ?_) AllReadyH.nil
            have ld := SD.out.o2.bus.m.hb
            go_simp
            refine hK.out _ _ (SD.out.o1.be) (fun hHeld => ?_)
            clear hK K
            try simp only [Act.put, List.setIfInBounds_toArray, List.set_cons_zero, List.set_cons_succ]
            clear ld
            refine wpAnyH_ready (rs := [40]) (by kernel_rfl) (by simp) ?_
            refine AllReadyH.cons (o := { dst := some 107, op := Op.convert 55 9 (Operand.tmp 106), type := 9, pos := "law.go:99", after := #[{ on := 39, ground := Ground.data }, { on := 29, ground := Ground.guard }], guard := some (29, false) }) rfl (fun K hK => ?_) AllReadyH.nil
            have hcv := rtext SD.out.o2.bus.m
            rw [hI.out] at hcv
            go_simp
            refine hK.out _ _ (SD.out.o1.be) (fun hHeld => ?_)
            clear hK K
            try simp only [Act.put, List.setIfInBounds_toArray, List.set_cons_zero, List.set_cons_succ]
            clear hcv
            refine wpAnyH_take (i := 41) (oi := { dst := some 108, op := Op.binOp BinOp.neq 9 (Operand.tmp 99) (Operand.tmp 107) 9, type := 4, pos := "law.go:99", after := #[{ on := 32, ground := Ground.data }, { on := 40, ground := Ground.data }, { on := 29, ground := Ground.guard }], guard := some (29, false) }) (v := ?_) rfl (by kernel_rfl) (by kernel_rfl) (by kernel_rfl) (fun _ _ _ h => h) (Or.inl ⟨by rfl, ?_⟩) (by assumption) ?_
            rotate_left
            · intro y hSw
              obtain ⟨e0, e1, e2, e3, e4, e5, e6⟩ := hA.out _ hSw
              go_simp
              try with_reducible rfl
            try simp only [Act.put, List.setIfInBounds_toArray, List.set_cons_zero, List.set_cons_succ]
            refine wpAnyH_take (i := 42) (oi := { dst := some 109, op := Op.pick (Operand.tmp 96) (Operand.const (Value.bool true)) (Operand.tmp 108), type := 4, pos := "law.go:99", after := #[{ on := 29, ground := Ground.data }, { on := 41, ground := Ground.data }], guard := none }) (v := ?_) rfl (by kernel_rfl) (by kernel_rfl) (by kernel_rfl) (fun _ _ _ h => h) (Or.inl ⟨by rfl, ?_⟩) (by assumption) ?_
            rotate_left
            · intro y hSw
              obtain ⟨e0, e1, e2, e3, e4, e5, e6⟩ := hA.out _ hSw
              go_simp
              try with_reducible rfl
            try simp only [Act.put, List.setIfInBounds_toArray, List.set_cons_zero, List.set_cons_succ]
            refine wpAnyH_done (by kernel_rfl) ?_ _
            clear hHeld hneq
            go_wp2
            go_roundw
            case rel => exact ⟨k + 1, b, by omega, by go_num, rfl, hide ⟨_, _, _, _, _, _, SD.out⟩⟩
            case measure => simp [intOf]; omega
          refine AllReadyH.cons (o := { dst := some 106, op := Op.load 55 (Operand.tmp 105), type := 55, pos := "law.go:99", after := #[{ on := 38, ground := Ground.data }, { on := 29, ground := Ground.guard }], guard := some (29, false) }) rfl (fun K hK => ?_) AllReadyH.nil
          have ld := SD.out.o2.bus.m.hb
          go_simp
          refine hK.out _ _ (SD.out.o1.be) (fun hHeld => ?_)
          clear hK K
          try simp only [Act.put, List.setIfInBounds_toArray, List.set_cons_zero, List.set_cons_succ]
          clear ld
          refine wpAnyH_ready (rs := [32, 40]) (by kernel_rfl) (by simp) ?_
          refine AllReadyH.cons (o := { dst := some 99, op := Op.call { callee := Callee.value (Operand.func 15), args := #[Operand.tmp 98], argTypes := #[53] }, type := 9, pos := "law.go:99", after := #[{ on := 31, ground := Ground.data }, { on := 31, ground := Ground.chain }, { on := 29, ground := Ground.guard }], guard := some (29, false) }) rfl (fun K hK => ?_) ?_
          · go_simp
            refine (image_any SD.out.o1.bus.m).mono ?_
            rintro e x10 ⟨rfl, hn⟩
            rw [hI.out]
            replace SD := hide (SD.out.on hn)
            go_wp2_with fail
            refine hK.out _ _ (SD.out.o1.be) (fun hHeld => ?_)
            clear hK K
            try simp only [Act.put, List.setIfInBounds_toArray, List.set_cons_zero, List.set_cons_succ]
            clear hn
            refine wpAnyH_ready (rs := [40]) (by kernel_rfl) (by simp) ?_
            refine AllReadyH.cons (o := { dst := some 107, op := Op.convert 55 9 (Operand.tmp 106), type := 9, pos := "law.go:99", after := #[{ on := 39, ground := Ground.data }, { on := 29, ground := Ground.guard }], guard := some (29, false) }) rfl (fun K hK => ?_) AllReadyH.nil
            have hcv := rtext SD.out.o2.bus.m
            rw [hI.out] at hcv
            go_simp
            refine hK.out _ _ (SD.out.o1.be) (fun hHeld => ?_)
            clear hK K
            try simp only [Act.put, List.setIfInBounds_toArray, List.set_cons_zero, List.set_cons_succ]
            clear hcv
            refine wpAnyH_take (i := 41) (oi := { dst := some 108, op := Op.binOp BinOp.neq 9 (Operand.tmp 99) (Operand.tmp 107) 9, type := 4, pos := "law.go:99", after := #[{ on := 32, ground := Ground.data }, { on := 40, ground := Ground.data }, { on := 29, ground := Ground.guard }], guard := some (29, false) }) (v := ?_) rfl (by kernel_rfl) (by kernel_rfl) (by kernel_rfl) (fun _ _ _ h => h) (Or.inl ⟨by rfl, ?_⟩) (by assumption) ?_
            rotate_left
            · intro y hSw
              obtain ⟨e0, e1, e2, e3, e4, e5, e6⟩ := hA.out _ hSw
              go_simp
              try with_reducible rfl
            try simp only [Act.put, List.setIfInBounds_toArray, List.set_cons_zero, List.set_cons_succ]
            refine wpAnyH_take (i := 42) (oi := { dst := some 109, op := Op.pick (Operand.tmp 96) (Operand.const (Value.bool true)) (Operand.tmp 108), type := 4, pos := "law.go:99", after := #[{ on := 29, ground := Ground.data }, { on := 41, ground := Ground.data }], guard := none }) (v := ?_) rfl (by kernel_rfl) (by kernel_rfl) (by kernel_rfl) (fun _ _ _ h => h) (Or.inl ⟨by rfl, ?_⟩) (by assumption) ?_
            rotate_left
            · intro y hSw
              obtain ⟨e0, e1, e2, e3, e4, e5, e6⟩ := hA.out _ hSw
              go_simp
              try with_reducible rfl
            try simp only [Act.put, List.setIfInBounds_toArray, List.set_cons_zero, List.set_cons_succ]
            refine wpAnyH_done (by kernel_rfl) ?_ _
            clear hHeld hneq
            go_wp2
            go_roundw
            case rel => exact ⟨k + 1, b, by omega, by go_num, rfl, hide ⟨_, _, _, _, _, _, SD.out⟩⟩
            case measure => simp [intOf]; omega
          refine AllReadyH.cons (o := { dst := some 107, op := Op.convert 55 9 (Operand.tmp 106), type := 9, pos := "law.go:99", after := #[{ on := 39, ground := Ground.data }, { on := 29, ground := Ground.guard }], guard := some (29, false) }) rfl (fun K hK => ?_) AllReadyH.nil
          have hcv := rtext SD.out.o2.bus.m
          rw [hI.out] at hcv
          go_simp
          refine hK.out _ _ (SD.out.o1.be) (fun hHeld => ?_)
          clear hK K
          try simp only [Act.put, List.setIfInBounds_toArray, List.set_cons_zero, List.set_cons_succ]
          clear hcv
          refine wpAnyH_ready (rs := [32]) (by kernel_rfl) (by simp) ?_
          refine AllReadyH.cons (o := { dst := some 99, op := Op.call { callee := Callee.value (Operand.func 15), args := #[Operand.tmp 98], argTypes := #[53] }, type := 9, pos := "law.go:99", after := #[{ on := 31, ground := Ground.data }, { on := 31, ground := Ground.chain }, { on := 29, ground := Ground.guard }], guard := some (29, false) }) rfl (fun K hK => ?_) AllReadyH.nil
          go_simp
          refine (image_any SD.out.o1.bus.m).mono ?_
          rintro e x11 ⟨rfl, hn⟩
          rw [hI.out]
          replace SD := hide (SD.out.on hn)
          go_wp2_with fail
          refine hK.out _ _ (SD.out.o1.be) (fun hHeld => ?_)
          clear hK K
          try simp only [Act.put, List.setIfInBounds_toArray, List.set_cons_zero, List.set_cons_succ]
          clear hn
          refine wpAnyH_take (i := 41) (oi := { dst := some 108, op := Op.binOp BinOp.neq 9 (Operand.tmp 99) (Operand.tmp 107) 9, type := 4, pos := "law.go:99", after := #[{ on := 32, ground := Ground.data }, { on := 40, ground := Ground.data }, { on := 29, ground := Ground.guard }], guard := some (29, false) }) (v := ?_) rfl (by kernel_rfl) (by kernel_rfl) (by kernel_rfl) (fun _ _ _ h => h) (Or.inl ⟨by rfl, ?_⟩) (by assumption) ?_
          rotate_left
          · intro y hSw
            obtain ⟨e0, e1, e2, e3, e4, e5, e6⟩ := hA.out _ hSw
            go_simp
            try with_reducible rfl
          try simp only [Act.put, List.setIfInBounds_toArray, List.set_cons_zero, List.set_cons_succ]
          refine wpAnyH_take (i := 42) (oi := { dst := some 109, op := Op.pick (Operand.tmp 96) (Operand.const (Value.bool true)) (Operand.tmp 108), type := 4, pos := "law.go:99", after := #[{ on := 29, ground := Ground.data }, { on := 41, ground := Ground.data }], guard := none }) (v := ?_) rfl (by kernel_rfl) (by kernel_rfl) (by kernel_rfl) (fun _ _ _ h => h) (Or.inl ⟨by rfl, ?_⟩) (by assumption) ?_
          rotate_left
          · intro y hSw
            obtain ⟨e0, e1, e2, e3, e4, e5, e6⟩ := hA.out _ hSw
            go_simp
            try with_reducible rfl
          try simp only [Act.put, List.setIfInBounds_toArray, List.set_cons_zero, List.set_cons_succ]
          refine wpAnyH_done (by kernel_rfl) ?_ _
          clear hHeld hneq
          go_wp2
          go_roundw
          case rel => exact ⟨k + 1, b, by omega, by go_num, rfl, hide ⟨_, _, _, _, _, _, SD.out⟩⟩
          case measure => simp [intOf]; omega
        refine AllReadyH.cons (o := { dst := some 103, op := Op.load 44 (Operand.tmp 102), type := 44, pos := "law.go:99", after := #[{ on := 35, ground := Ground.data }, { on := 29, ground := Ground.guard }], guard := some (29, false) }) rfl (fun K hK => ?_) AllReadyH.nil
        have ld : x6.cell? ⟨b', 0, none⟩ = some (.pointer (some ⟨p', 0, none⟩)) := SD.out.o2.bus.cell 0
        go_simp
        refine hK.out _ _ (SD.out.o1.be) (fun hHeld => ?_)
        clear hK K
        try simp only [Act.put, List.setIfInBounds_toArray, List.set_cons_zero, List.set_cons_succ]
        clear ld
        refine wpAnyH_take (i := 37) (oi := { dst := some 104, op := Op.nilCheck (Operand.tmp 103), type := 0, pos := "law.go:99", after := #[{ on := 36, ground := Ground.data }, { on := 29, ground := Ground.guard }], guard := some (29, false) }) (v := ?_) rfl (by kernel_rfl) (by kernel_rfl) (by kernel_rfl) (fun _ _ _ h => h) (Or.inl ⟨by rfl, ?_⟩) (by assumption) ?_
        rotate_left
        · intro y hSw
          obtain ⟨e0, e1, e2, e3, e4, e5, e6⟩ := hA.out _ hSw
          go_simp
          try with_reducible rfl
        try simp only [Act.put, List.setIfInBounds_toArray, List.set_cons_zero, List.set_cons_succ]
        refine wpAnyH_take (i := 38) (oi := { dst := some 105, op := Op.fieldAddr 58 (Operand.tmp 104) 0, type := 0, pos := "law.go:99", after := #[{ on := 37, ground := Ground.data }, { on := 29, ground := Ground.guard }], guard := some (29, false) }) (v := ?_) rfl (by kernel_rfl) (by kernel_rfl) (by kernel_rfl) (fun _ _ _ h => h) (Or.inl ⟨by rfl, ?_⟩) (by assumption) ?_
        rotate_left
        · intro y hSw
          obtain ⟨e0, e1, e2, e3, e4, e5, e6⟩ := hA.out _ hSw
          go_simp
          try with_reducible rfl
        try simp only [Act.put, List.setIfInBounds_toArray, List.set_cons_zero, List.set_cons_succ]
        refine wpAnyH_ready (rs := [31, 39]) (by kernel_rfl) (by simp) ?_
        refine AllReadyH.cons (o := { dst := some 98, op := Op.call { callee := Callee.value (Operand.func 14), args := #[Operand.tmp 97], argTypes := #[23] }, type := 53, pos := "law.go:99", after := #[{ on := 30, ground := Ground.data }, { on := 29, ground := Ground.chain }, { on := 29, ground := Ground.guard }], guard := some (29, false) }) rfl (fun K hK => ?_) ?_
        · go_simp
          refine (memory_any SD.out.o1.bus).mono ?_
          rintro e x8 ⟨rfl, rfl⟩
          go_wp2_with fail
          refine hK.out _ _ (SD.out.o1.be) (fun hHeld => ?_)
          clear hK K
          try simp only [Act.put, List.setIfInBounds_toArray, List.set_cons_zero, List.set_cons_succ]
          refine wpAnyH_ready (rs := [32, 39]) (by kernel_rfl) (by simp) ?_
          refine AllReadyH.cons (o := { dst := some 99, op := Op.call { callee := Callee.value (Operand.func 15), args := #[Operand.tmp 98], argTypes := #[53] }, type := 9, pos := "law.go:99", after := #[{ on := 31, ground := Ground.data }, { on := 31, ground := Ground.chain }, { on := 29, ground := Ground.guard }], guard := some (29, false) }) rfl (fun K hK => ?_) ?_
          · go_simp
            refine (image_any SD.out.o1.bus.m).mono ?_
            rintro e x9 ⟨rfl, hn⟩
            rw [hI.out]
            replace SD := hide (SD.out.on hn)
            go_wp2_with fail
            refine hK.out _ _ (SD.out.o1.be) (fun hHeld => ?_)
            clear hK K
            try simp only [Act.put, List.setIfInBounds_toArray, List.set_cons_zero, List.set_cons_succ]
            clear hn
            refine wpAnyH_ready (rs := [39]) (by kernel_rfl) (by simp) ?_
            refine AllReadyH.cons (o := { dst := some 106, op := Op.load 55 (Operand.tmp 105), type := 55, pos := "law.go:99", after := #[{ on := 38, ground := Ground.data }, { on := 29, ground := Ground.guard }], guard := some (29, false) }) rfl (fun K hK => ?_) AllReadyH.nil
            have ld := SD.out.o2.bus.m.hb
            go_simp
            refine hK.out _ _ (SD.out.o1.be) (fun hHeld => ?_)
            clear hK K
            try simp only [Act.put, List.setIfInBounds_toArray, List.set_cons_zero, List.set_cons_succ]
            clear ld
            refine wpAnyH_ready (rs := [40]) (by kernel_rfl) (by simp) ?_
            refine AllReadyH.cons (o := { dst := some 107, op := Op.convert 55 9 (Operand.tmp 106), type := 9, pos := "law.go:99", after := #[{ on := 39, ground := Ground.data }, { on := 29, ground := Ground.guard }], guard := some (29, false) }) rfl (fun K hK => ?_) AllReadyH.nil
            have hcv := rtext SD.out.o2.bus.m
            rw [hI.out] at hcv
            go_simp
            refine hK.out _ _ (SD.out.o1.be) (fun hHeld => ?_)
            clear hK K
            try simp only [Act.put, List.setIfInBounds_toArray, List.set_cons_zero, List.set_cons_succ]
            clear hcv
            refine wpAnyH_take (i := 41) (oi := { dst := some 108, op := Op.binOp BinOp.neq 9 (Operand.tmp 99) (Operand.tmp 107) 9, type := 4, pos := "law.go:99", after := #[{ on := 32, ground := Ground.data }, { on := 40, ground := Ground.data }, { on := 29, ground := Ground.guard }], guard := some (29, false) }) (v := ?_) rfl (by kernel_rfl) (by kernel_rfl) (by kernel_rfl) (fun _ _ _ h => h) (Or.inl ⟨by rfl, ?_⟩) (by assumption) ?_
            rotate_left
            · intro y hSw
              obtain ⟨e0, e1, e2, e3, e4, e5, e6⟩ := hA.out _ hSw
              go_simp
              try with_reducible rfl
            try simp only [Act.put, List.setIfInBounds_toArray, List.set_cons_zero, List.set_cons_succ]
            refine wpAnyH_take (i := 42) (oi := { dst := some 109, op := Op.pick (Operand.tmp 96) (Operand.const (Value.bool true)) (Operand.tmp 108), type := 4, pos := "law.go:99", after := #[{ on := 29, ground := Ground.data }, { on := 41, ground := Ground.data }], guard := none }) (v := ?_) rfl (by kernel_rfl) (by kernel_rfl) (by kernel_rfl) (fun _ _ _ h => h) (Or.inl ⟨by rfl, ?_⟩) (by assumption) ?_
            rotate_left
            · intro y hSw
              obtain ⟨e0, e1, e2, e3, e4, e5, e6⟩ := hA.out _ hSw
              go_simp
              try with_reducible rfl
            try simp only [Act.put, List.setIfInBounds_toArray, List.set_cons_zero, List.set_cons_succ]
            refine wpAnyH_done (by kernel_rfl) ?_ _
            clear hHeld hneq
            go_wp2
            go_roundw
            case rel => exact ⟨k + 1, b, by omega, by go_num, rfl, hide ⟨_, _, _, _, _, _, SD.out⟩⟩
            case measure => simp [intOf]; omega
          refine AllReadyH.cons (o := { dst := some 106, op := Op.load 55 (Operand.tmp 105), type := 55, pos := "law.go:99", after := #[{ on := 38, ground := Ground.data }, { on := 29, ground := Ground.guard }], guard := some (29, false) }) rfl (fun K hK => ?_) AllReadyH.nil
          have ld := SD.out.o2.bus.m.hb
          go_simp
          refine hK.out _ _ (SD.out.o1.be) (fun hHeld => ?_)
          clear hK K
          try simp only [Act.put, List.setIfInBounds_toArray, List.set_cons_zero, List.set_cons_succ]
          clear ld
          refine wpAnyH_ready (rs := [32, 40]) (by kernel_rfl) (by simp) ?_
          refine AllReadyH.cons (o := { dst := some 99, op := Op.call { callee := Callee.value (Operand.func 15), args := #[Operand.tmp 98], argTypes := #[53] }, type := 9, pos := "law.go:99", after := #[{ on := 31, ground := Ground.data }, { on := 31, ground := Ground.chain }, { on := 29, ground := Ground.guard }], guard := some (29, false) }) rfl (fun K hK => ?_) ?_
          · go_simp
            refine (image_any SD.out.o1.bus.m).mono ?_
            rintro e x10 ⟨rfl, hn⟩
            rw [hI.out]
            replace SD := hide (SD.out.on hn)
            go_wp2_with fail
            refine hK.out _ _ (SD.out.o1.be) (fun hHeld => ?_)
            clear hK K
            try simp only [Act.put, List.setIfInBounds_toArray, List.set_cons_zero, List.set_cons_succ]
            clear hn
            refine wpAnyH_ready (rs := [40]) (by kernel_rfl) (by simp) ?_
            refine AllReadyH.cons (o := { dst := some 107, op := Op.convert 55 9 (Operand.tmp 106), type := 9, pos := "law.go:99", after := #[{ on := 39, ground := Ground.data }, { on := 29, ground := Ground.guard }], guard := some (29, false) }) rfl (fun K hK => ?_) AllReadyH.nil
            have hcv := rtext SD.out.o2.bus.m
            rw [hI.out] at hcv
            go_simp
            refine hK.out _ _ (SD.out.o1.be) (fun hHeld => ?_)
            clear hK K
            try simp only [Act.put, List.setIfInBounds_toArray, List.set_cons_zero, List.set_cons_succ]
            clear hcv
            refine wpAnyH_take (i := 41) (oi := { dst := some 108, op := Op.binOp BinOp.neq 9 (Operand.tmp 99) (Operand.tmp 107) 9, type := 4, pos := "law.go:99", after := #[{ on := 32, ground := Ground.data }, { on := 40, ground := Ground.data }, { on := 29, ground := Ground.guard }], guard := some (29, false) }) (v := ?_) rfl (by kernel_rfl) (by kernel_rfl) (by kernel_rfl) (fun _ _ _ h => h) (Or.inl ⟨by rfl, ?_⟩) (by assumption) ?_
            rotate_left
            · intro y hSw
              obtain ⟨e0, e1, e2, e3, e4, e5, e6⟩ := hA.out _ hSw
              go_simp
              try with_reducible rfl
            try simp only [Act.put, List.setIfInBounds_toArray, List.set_cons_zero, List.set_cons_succ]
            refine wpAnyH_take (i := 42) (oi := { dst := some 109, op := Op.pick (Operand.tmp 96) (Operand.const (Value.bool true)) (Operand.tmp 108), type := 4, pos := "law.go:99", after := #[{ on := 29, ground := Ground.data }, { on := 41, ground := Ground.data }], guard := none }) (v := ?_) rfl (by kernel_rfl) (by kernel_rfl) (by kernel_rfl) (fun _ _ _ h => h) (Or.inl ⟨by rfl, ?_⟩) (by assumption) ?_
            rotate_left
            · intro y hSw
              obtain ⟨e0, e1, e2, e3, e4, e5, e6⟩ := hA.out _ hSw
              go_simp
              try with_reducible rfl
            try simp only [Act.put, List.setIfInBounds_toArray, List.set_cons_zero, List.set_cons_succ]
            refine wpAnyH_done (by kernel_rfl) ?_ _
            clear hHeld hneq
            go_wp2
            go_roundw
            case rel => exact ⟨k + 1, b, by omega, by go_num, rfl, hide ⟨_, _, _, _, _, _, SD.out⟩⟩
            case measure => simp [intOf]; omega
          refine AllReadyH.cons (o := { dst := some 107, op := Op.convert 55 9 (Operand.tmp 106), type := 9, pos := "law.go:99", after := #[{ on := 39, ground := Ground.data }, { on := 29, ground := Ground.guard }], guard := some (29, false) }) rfl (fun K hK => ?_) AllReadyH.nil
          have hcv := rtext SD.out.o2.bus.m
          rw [hI.out] at hcv
          go_simp
          refine hK.out _ _ (SD.out.o1.be) (fun hHeld => ?_)
          clear hK K
          try simp only [Act.put, List.setIfInBounds_toArray, List.set_cons_zero, List.set_cons_succ]
          clear hcv
          refine wpAnyH_ready (rs := [32]) (by kernel_rfl) (by simp) ?_
          refine AllReadyH.cons (o := { dst := some 99, op := Op.call { callee := Callee.value (Operand.func 15), args := #[Operand.tmp 98], argTypes := #[53] }, type := 9, pos := "law.go:99", after := #[{ on := 31, ground := Ground.data }, { on := 31, ground := Ground.chain }, { on := 29, ground := Ground.guard }], guard := some (29, false) }) rfl (fun K hK => ?_) AllReadyH.nil
          go_simp
          refine (image_any SD.out.o1.bus.m).mono ?_
          rintro e x11 ⟨rfl, hn⟩
          rw [hI.out]
          replace SD := hide (SD.out.on hn)
          go_wp2_with fail
          refine hK.out _ _ (SD.out.o1.be) (fun hHeld => ?_)
          clear hK K
          try simp only [Act.put, List.setIfInBounds_toArray, List.set_cons_zero, List.set_cons_succ]
          clear hn
          refine wpAnyH_take (i := 41) (oi := { dst := some 108, op := Op.binOp BinOp.neq 9 (Operand.tmp 99) (Operand.tmp 107) 9, type := 4, pos := "law.go:99", after := #[{ on := 32, ground := Ground.data }, { on := 40, ground := Ground.data }, { on := 29, ground := Ground.guard }], guard := some (29, false) }) (v := ?_) rfl (by kernel_rfl) (by kernel_rfl) (by kernel_rfl) (fun _ _ _ h => h) (Or.inl ⟨by rfl, ?_⟩) (by assumption) ?_
          rotate_left
          · intro y hSw
            obtain ⟨e0, e1, e2, e3, e4, e5, e6⟩ := hA.out _ hSw
            go_simp
            try with_reducible rfl
          try simp only [Act.put, List.setIfInBounds_toArray, List.set_cons_zero, List.set_cons_succ]
          refine wpAnyH_take (i := 42) (oi := { dst := some 109, op := Op.pick (Operand.tmp 96) (Operand.const (Value.bool true)) (Operand.tmp 108), type := 4, pos := "law.go:99", after := #[{ on := 29, ground := Ground.data }, { on := 41, ground := Ground.data }], guard := none }) (v := ?_) rfl (by kernel_rfl) (by kernel_rfl) (by kernel_rfl) (fun _ _ _ h => h) (Or.inl ⟨by rfl, ?_⟩) (by assumption) ?_
          rotate_left
          · intro y hSw
            obtain ⟨e0, e1, e2, e3, e4, e5, e6⟩ := hA.out _ hSw
            go_simp
            try with_reducible rfl
          try simp only [Act.put, List.setIfInBounds_toArray, List.set_cons_zero, List.set_cons_succ]
          refine wpAnyH_done (by kernel_rfl) ?_ _
          clear hHeld hneq
          go_wp2
          go_roundw
          case rel => exact ⟨k + 1, b, by omega, by go_num, rfl, hide ⟨_, _, _, _, _, _, SD.out⟩⟩
          case measure => simp [intOf]; omega
        refine AllReadyH.cons (o := { dst := some 106, op := Op.load 55 (Operand.tmp 105), type := 55, pos := "law.go:99", after := #[{ on := 38, ground := Ground.data }, { on := 29, ground := Ground.guard }], guard := some (29, false) }) rfl (fun K hK => ?_) AllReadyH.nil
        have ld := SD.out.o2.bus.m.hb
        go_simp
        refine hK.out _ _ (SD.out.o1.be) (fun hHeld => ?_)
        clear hK K
        try simp only [Act.put, List.setIfInBounds_toArray, List.set_cons_zero, List.set_cons_succ]
        clear ld
        refine wpAnyH_ready (rs := [31, 40]) (by kernel_rfl) (by simp) ?_
        refine AllReadyH.cons (o := { dst := some 98, op := Op.call { callee := Callee.value (Operand.func 14), args := #[Operand.tmp 97], argTypes := #[23] }, type := 53, pos := "law.go:99", after := #[{ on := 30, ground := Ground.data }, { on := 29, ground := Ground.chain }, { on := 29, ground := Ground.guard }], guard := some (29, false) }) rfl (fun K hK => ?_) ?_
        · go_simp
          refine (memory_any SD.out.o1.bus).mono ?_
          rintro e x9 ⟨rfl, rfl⟩
          go_wp2_with fail
          refine hK.out _ _ (SD.out.o1.be) (fun hHeld => ?_)
          clear hK K
          try simp only [Act.put, List.setIfInBounds_toArray, List.set_cons_zero, List.set_cons_succ]
          refine wpAnyH_ready (rs := [32, 40]) (by kernel_rfl) (by simp) ?_
          refine AllReadyH.cons (o := { dst := some 99, op := Op.call { callee := Callee.value (Operand.func 15), args := #[Operand.tmp 98], argTypes := #[53] }, type := 9, pos := "law.go:99", after := #[{ on := 31, ground := Ground.data }, { on := 31, ground := Ground.chain }, { on := 29, ground := Ground.guard }], guard := some (29, false) }) rfl (fun K hK => ?_) ?_
          · go_simp
            refine (image_any SD.out.o1.bus.m).mono ?_
            rintro e x10 ⟨rfl, hn⟩
            rw [hI.out]
            replace SD := hide (SD.out.on hn)
            go_wp2_with fail
            refine hK.out _ _ (SD.out.o1.be) (fun hHeld => ?_)
            clear hK K
            try simp only [Act.put, List.setIfInBounds_toArray, List.set_cons_zero, List.set_cons_succ]
            clear hn
            refine wpAnyH_ready (rs := [40]) (by kernel_rfl) (by simp) ?_
            refine AllReadyH.cons (o := { dst := some 107, op := Op.convert 55 9 (Operand.tmp 106), type := 9, pos := "law.go:99", after := #[{ on := 39, ground := Ground.data }, { on := 29, ground := Ground.guard }], guard := some (29, false) }) rfl (fun K hK => ?_) AllReadyH.nil
            have hcv := rtext SD.out.o2.bus.m
            rw [hI.out] at hcv
            go_simp
            refine hK.out _ _ (SD.out.o1.be) (fun hHeld => ?_)
            clear hK K
            try simp only [Act.put, List.setIfInBounds_toArray, List.set_cons_zero, List.set_cons_succ]
            clear hcv
            refine wpAnyH_take (i := 41) (oi := { dst := some 108, op := Op.binOp BinOp.neq 9 (Operand.tmp 99) (Operand.tmp 107) 9, type := 4, pos := "law.go:99", after := #[{ on := 32, ground := Ground.data }, { on := 40, ground := Ground.data }, { on := 29, ground := Ground.guard }], guard := some (29, false) }) (v := ?_) rfl (by kernel_rfl) (by kernel_rfl) (by kernel_rfl) (fun _ _ _ h => h) (Or.inl ⟨by rfl, ?_⟩) (by assumption) ?_
            rotate_left
            · intro y hSw
              obtain ⟨e0, e1, e2, e3, e4, e5, e6⟩ := hA.out _ hSw
              go_simp
              try with_reducible rfl
            try simp only [Act.put, List.setIfInBounds_toArray, List.set_cons_zero, List.set_cons_succ]
            refine wpAnyH_take (i := 42) (oi := { dst := some 109, op := Op.pick (Operand.tmp 96) (Operand.const (Value.bool true)) (Operand.tmp 108), type := 4, pos := "law.go:99", after := #[{ on := 29, ground := Ground.data }, { on := 41, ground := Ground.data }], guard := none }) (v := ?_) rfl (by kernel_rfl) (by kernel_rfl) (by kernel_rfl) (fun _ _ _ h => h) (Or.inl ⟨by rfl, ?_⟩) (by assumption) ?_
            rotate_left
            · intro y hSw
              obtain ⟨e0, e1, e2, e3, e4, e5, e6⟩ := hA.out _ hSw
              go_simp
              try with_reducible rfl
            try simp only [Act.put, List.setIfInBounds_toArray, List.set_cons_zero, List.set_cons_succ]
            refine wpAnyH_done (by kernel_rfl) ?_ _
            clear hHeld hneq
            go_wp2
            go_roundw
            case rel => exact ⟨k + 1, b, by omega, by go_num, rfl, hide ⟨_, _, _, _, _, _, SD.out⟩⟩
            case measure => simp [intOf]; omega
          refine AllReadyH.cons (o := { dst := some 107, op := Op.convert 55 9 (Operand.tmp 106), type := 9, pos := "law.go:99", after := #[{ on := 39, ground := Ground.data }, { on := 29, ground := Ground.guard }], guard := some (29, false) }) rfl (fun K hK => ?_) AllReadyH.nil
          have hcv := rtext SD.out.o2.bus.m
          rw [hI.out] at hcv
          go_simp
          refine hK.out _ _ (SD.out.o1.be) (fun hHeld => ?_)
          clear hK K
          try simp only [Act.put, List.setIfInBounds_toArray, List.set_cons_zero, List.set_cons_succ]
          clear hcv
          refine wpAnyH_ready (rs := [32]) (by kernel_rfl) (by simp) ?_
          refine AllReadyH.cons (o := { dst := some 99, op := Op.call { callee := Callee.value (Operand.func 15), args := #[Operand.tmp 98], argTypes := #[53] }, type := 9, pos := "law.go:99", after := #[{ on := 31, ground := Ground.data }, { on := 31, ground := Ground.chain }, { on := 29, ground := Ground.guard }], guard := some (29, false) }) rfl (fun K hK => ?_) AllReadyH.nil
          go_simp
          refine (image_any SD.out.o1.bus.m).mono ?_
          rintro e x11 ⟨rfl, hn⟩
          rw [hI.out]
          replace SD := hide (SD.out.on hn)
          go_wp2_with fail
          refine hK.out _ _ (SD.out.o1.be) (fun hHeld => ?_)
          clear hK K
          try simp only [Act.put, List.setIfInBounds_toArray, List.set_cons_zero, List.set_cons_succ]
          clear hn
          refine wpAnyH_take (i := 41) (oi := { dst := some 108, op := Op.binOp BinOp.neq 9 (Operand.tmp 99) (Operand.tmp 107) 9, type := 4, pos := "law.go:99", after := #[{ on := 32, ground := Ground.data }, { on := 40, ground := Ground.data }, { on := 29, ground := Ground.guard }], guard := some (29, false) }) (v := ?_) rfl (by kernel_rfl) (by kernel_rfl) (by kernel_rfl) (fun _ _ _ h => h) (Or.inl ⟨by rfl, ?_⟩) (by assumption) ?_
          rotate_left
          · intro y hSw
            obtain ⟨e0, e1, e2, e3, e4, e5, e6⟩ := hA.out _ hSw
            go_simp
            try with_reducible rfl
          try simp only [Act.put, List.setIfInBounds_toArray, List.set_cons_zero, List.set_cons_succ]
          refine wpAnyH_take (i := 42) (oi := { dst := some 109, op := Op.pick (Operand.tmp 96) (Operand.const (Value.bool true)) (Operand.tmp 108), type := 4, pos := "law.go:99", after := #[{ on := 29, ground := Ground.data }, { on := 41, ground := Ground.data }], guard := none }) (v := ?_) rfl (by kernel_rfl) (by kernel_rfl) (by kernel_rfl) (fun _ _ _ h => h) (Or.inl ⟨by rfl, ?_⟩) (by assumption) ?_
          rotate_left
          · intro y hSw
            obtain ⟨e0, e1, e2, e3, e4, e5, e6⟩ := hA.out _ hSw
            go_simp
            try with_reducible rfl
          try simp only [Act.put, List.setIfInBounds_toArray, List.set_cons_zero, List.set_cons_succ]
          refine wpAnyH_done (by kernel_rfl) ?_ _
          clear hHeld hneq
          go_wp2
          go_roundw
          case rel => exact ⟨k + 1, b, by omega, by go_num, rfl, hide ⟨_, _, _, _, _, _, SD.out⟩⟩
          case measure => simp [intOf]; omega
        refine AllReadyH.cons (o := { dst := some 107, op := Op.convert 55 9 (Operand.tmp 106), type := 9, pos := "law.go:99", after := #[{ on := 39, ground := Ground.data }, { on := 29, ground := Ground.guard }], guard := some (29, false) }) rfl (fun K hK => ?_) AllReadyH.nil
        have hcv := rtext SD.out.o2.bus.m
        rw [hI.out] at hcv
        go_simp
        refine hK.out _ _ (SD.out.o1.be) (fun hHeld => ?_)
        clear hK K
        try simp only [Act.put, List.setIfInBounds_toArray, List.set_cons_zero, List.set_cons_succ]
        clear hcv
        refine wpAnyH_ready (rs := [31]) (by kernel_rfl) (by simp) ?_
        refine AllReadyH.cons (o := { dst := some 98, op := Op.call { callee := Callee.value (Operand.func 14), args := #[Operand.tmp 97], argTypes := #[23] }, type := 53, pos := "law.go:99", after := #[{ on := 30, ground := Ground.data }, { on := 29, ground := Ground.chain }, { on := 29, ground := Ground.guard }], guard := some (29, false) }) rfl (fun K hK => ?_) AllReadyH.nil
        go_simp
        refine (memory_any SD.out.o1.bus).mono ?_
        rintro e x10 ⟨rfl, rfl⟩
        go_wp2_with fail
        refine hK.out _ _ (SD.out.o1.be) (fun hHeld => ?_)
        clear hK K
        try simp only [Act.put, List.setIfInBounds_toArray, List.set_cons_zero, List.set_cons_succ]
        refine wpAnyH_ready (rs := [32]) (by kernel_rfl) (by simp) ?_
        refine AllReadyH.cons (o := { dst := some 99, op := Op.call { callee := Callee.value (Operand.func 15), args := #[Operand.tmp 98], argTypes := #[53] }, type := 9, pos := "law.go:99", after := #[{ on := 31, ground := Ground.data }, { on := 31, ground := Ground.chain }, { on := 29, ground := Ground.guard }], guard := some (29, false) }) rfl (fun K hK => ?_) AllReadyH.nil
        go_simp
        refine (image_any SD.out.o1.bus.m).mono ?_
        rintro e x11 ⟨rfl, hn⟩
        rw [hI.out]
        replace SD := hide (SD.out.on hn)
        go_wp2_with fail
        refine hK.out _ _ (SD.out.o1.be) (fun hHeld => ?_)
        clear hK K
        try simp only [Act.put, List.setIfInBounds_toArray, List.set_cons_zero, List.set_cons_succ]
        clear hn
        refine wpAnyH_take (i := 41) (oi := { dst := some 108, op := Op.binOp BinOp.neq 9 (Operand.tmp 99) (Operand.tmp 107) 9, type := 4, pos := "law.go:99", after := #[{ on := 32, ground := Ground.data }, { on := 40, ground := Ground.data }, { on := 29, ground := Ground.guard }], guard := some (29, false) }) (v := ?_) rfl (by kernel_rfl) (by kernel_rfl) (by kernel_rfl) (fun _ _ _ h => h) (Or.inl ⟨by rfl, ?_⟩) (by assumption) ?_
        rotate_left
        · intro y hSw
          obtain ⟨e0, e1, e2, e3, e4, e5, e6⟩ := hA.out _ hSw
          go_simp
          try with_reducible rfl
        try simp only [Act.put, List.setIfInBounds_toArray, List.set_cons_zero, List.set_cons_succ]
        refine wpAnyH_take (i := 42) (oi := { dst := some 109, op := Op.pick (Operand.tmp 96) (Operand.const (Value.bool true)) (Operand.tmp 108), type := 4, pos := "law.go:99", after := #[{ on := 29, ground := Ground.data }, { on := 41, ground := Ground.data }], guard := none }) (v := ?_) rfl (by kernel_rfl) (by kernel_rfl) (by kernel_rfl) (fun _ _ _ h => h) (Or.inl ⟨by rfl, ?_⟩) (by assumption) ?_
        rotate_left
        · intro y hSw
          obtain ⟨e0, e1, e2, e3, e4, e5, e6⟩ := hA.out _ hSw
          go_simp
          try with_reducible rfl
        try simp only [Act.put, List.setIfInBounds_toArray, List.set_cons_zero, List.set_cons_succ]
        refine wpAnyH_done (by kernel_rfl) ?_ _
        clear hHeld hneq
        go_wp2
        go_roundw
        case rel => exact ⟨k + 1, b, by omega, by go_num, rfl, hide ⟨_, _, _, _, _, _, SD.out⟩⟩
        case measure => simp [intOf]; omega
    · have tw := two_ways hc
      obtain ⟨p, g, c, v, B, D, S1⟩ := HS.out
      have be := hide S1.o1.be
      clear hc HS S1
      rcases tw with ⟨d1, d2, d3, d4⟩ | ⟨d1, d2⟩
      all_goals
        go_wp2_with fail
        refine (fixed_any12 _).mono ?_
        rintro e w11 ⟨rfl, b11⟩
        have be3 := hide (onto be.out (Nat.le_refl _) b11)
        clear b11
        go_wp2
        go_ret
        exact ⟨rfl, be3.out⟩

end Go.Proofs.YtdapjpbdplhgbaaGreat
