/- Layer 12: the contract of Set, the document's. -/
import Derived.Test.YthjcijlabpinkaaGreatDoorRBuDev
import Derived.Deep.RegionHeld3
import Derived.Deep.CutRange
import Derived.RegionTactic
import Derived.Test.YthjcijlabpinkaaGreatDoorRBuOne
import Derived.Deep.QuietTactic
import Derived.BigQuiet
namespace Go.Proofs.YthjcijlabpinkaaGreatDoor
open Go.RowKit
set_option linter.unusedVariables false
set_option maxRecDepth 100000
set_option linter.unusedSimpArgs false

theorem rset_short {w : World} {b : Nat} {s : ByteArray} (h : s.size < 1066) :
    Calls Tryz.prog 45 #[.pointer (some ⟨b, 0, none⟩), .string s] w fun e w' => e = .returned (.int .i64 120) ∧ w' = w := by
  have h' : (s.size : Int) < 1066 := by omega
  go_enter Tryz.func45, Tryz.ntmps45
  go_wp2
  go_ret
  exact ⟨rfl, rfl⟩

theorem eqG (r q : Rg) (w : World) : (Op.equalIn 10000 68 (.agg (cellsG r)) (.agg (cellsG q))).run Tryz.prog w = .ok (decide (r = q)) w := by
  have hu : Tryz.prog.underlying 68 = some (.struct (Tryz.prog.fieldsOf 68)) := by kernel_rfl
  have hp : Tryz.prog.stoodInHeld 68 = false := by kernel_rfl
  rw [run_equalIn_agg w 9999 68 _ _ hu hp]
  obtain ⟨r0, r1, r2, r3⟩ := r
  obtain ⟨q0, q1, q2, q3⟩ := q
  simp only [cellsG, Rg.mk.injEq]
  simp [go_sem]
  repeat' split
  all_goals simp_all

theorem neqG (r q : Rg) (w : World) : (binOp .neq 68 (.agg (cellsG r)) (.agg (cellsG q))).run Tryz.prog w = .ok (.bool (!decide (r = q))) w := by
  rw [run_neq_struct, eqG]; rfl

def leastG (r : Rg) : Rg := ⟨r.a % 65521, r.b % 65521, r.c % 65521, r.d % 65521⟩

theorem least_g (r : Rg) (w : World) : Calls Tryz.prog 121 #[.agg (cellsG r)] w fun e w' => e = .returned (.agg (cellsG (leastG r))) ∧ Below w.heap.size w w' := Rng.least_any _ _ _ _ w

theorem least_yes {r : Rg} (h : Wg r) : leastG r = r := by
  obtain ⟨a, b, c, d⟩ := r
  obtain ⟨h1, h2, h3, h4⟩ := h
  simp only at h1 h2 h3 h4
  unfold leastG
  simp only [Rg.mk.injEq]
  omega

theorem least_no {q : Nat → Int} (h : ∃ j, j < 4 ∧ 65520 < q j) : ¬ leastG ⟨q 0, q 1, q 2, q 3⟩ = ⟨q 0, q 1, q 2, q 3⟩ := by
  obtain ⟨j, hj, hlt⟩ := h
  unfold leastG
  simp only [Rg.mk.injEq]
  have : j = 0 ∨ j = 1 ∨ j = 2 ∨ j = 3 := by omega
  rcases this with rfl | rfl | rfl | rfl
  all_goals omega

theorem part_val (s : ByteArray) (h : 1066 ≤ s.size) (j : Nat) (hj : j < 4) (w : World) :
    Calls Tryz.prog 120 #[.string (s.extract (26 + 4 * j) (26 + 4 * j + 4))] w fun e w' => e = .returned (.int .u32 (partsG (s.extract 26 42) j)) ∧ w' = w := by
  refine (Dm.rval_any (s.extract (26 + 4 * j) (26 + 4 * j + 4)) (by rw [cut_size s _ _ (by omega) (by omega)]; omega) w).mono ?_
  rintro e w' ⟨rfl, rfl⟩
  refine ⟨?_, rfl⟩
  unfold partsG
  rw [Dm.num_cut s (26 + 4 * j) (by omega), Dm.num4, Dm.num4, Dm.byteAt_cut s 26 42 (4 * j) (by omega) (by omega), Dm.byteAt_cut s 26 42 (4 * j + 1) (by omega) (by omega), Dm.byteAt_cut s 26 42 (4 * j + 2) (by omega) (by omega), Dm.byteAt_cut s 26 42 (4 * j + 3) (by omega) (by omega)]
  rfl

structure HeldG (w : World) (L : Nat) (r : Rg) where
  x : World
  h : Box x L (cellsG r) ∧ Below w.heap.size w x

def HeldG.on {w z : World} {L : Nat} {r : Rg} (y : HeldG w L r) (hb : Below y.x.heap.size y.x z) : HeldG w L r := ⟨z, y.h.1.on hb, onto y.h.2 (Nat.le_refl _) hb⟩

theorem HeldG.load {w : World} {L : Nat} {r : Rg} (y : HeldG w L r) : (loadCellsFrom ⟨L, 0, none⟩ 0 N4 #[]).run Tryz.prog y.x = .ok (cellsG r) y.x := y.h.1.loadG

theorem RBus.setK {w : World} {b p gb gd n : Nat} {v : Dv} {B : Nat → Nat} {D : Nat → Bool} (h : RBus w b p gb gd n v B D) (s : ByteArray) (hq : Wv { v with k := s }) : RBus (w.setCell ⟨b, 16, none⟩ (.string s)) b p gb gd n { v with k := s } B D :=
  ⟨by rw [isRow_setCell]; exact h.row, by rw [rowAt_setCell, h.at']; rfl, by rw [World.size_setCell]; exact h.lt,
    h.m.kept (Kept.cell (l := [b]) w b 16 _ (by simp)) (by simpa using h.np.symm) (by simpa using h.nb.symm) (by simpa using h.nd.symm), hq, h.np, h.nb, h.nd⟩

structure RHold (w x : World) (b p gb gd n : Nat) (v : Dv) (B : Nat → Nat) (D : Nat → Bool) (l : List (Nat × Array Value)) : Prop where
  bus : RBus x b p gb gd n v B D
  all : ∀ q, q ∈ l → Box x q.1 q.2 ∧ q.1 ≠ b ∧ w.heap.size ≤ q.1
  be : Below w.heap.size w x

theorem RHold.on {w x y : World} {b p gb gd n : Nat} {v : Dv} {B : Nat → Nat} {D : Nat → Bool} {l : List (Nat × Array Value)} (h : RHold w x b p gb gd n v B D l) (hb : Below x.heap.size x y) : RHold w y b p gb gd n v B D l :=
  ⟨h.bus.on hb, fun q hq => ⟨(h.all q hq).1.on hb, (h.all q hq).2⟩, onto h.be (Nat.le_refl _) hb⟩

theorem RHold.new {w x : World} {b p gb gd n : Nat} {v : Dv} {B : Nat → Nat} {D : Nat → Bool} {l : List (Nat × Array Value)} (h : RHold w x b p gb gd n v B D l) (c : Array Value) (i : TypeId) : RHold w (x.alloc (.cells c i)) b p gb gd n v B D ((x.heap.size, c) :: l) := by
  refine ⟨h.bus.on (grow _ _), fun q hq => ?_, onto h.be (Nat.le_refl _) (grow _ _)⟩
  rcases List.mem_cons.1 hq with rfl | hq
  · exact ⟨Box.new x c i, by have := h.bus.lt; show x.heap.size ≠ b; omega, h.be.size⟩
  · exact ⟨(h.all q hq).1.on (grow _ _), (h.all q hq).2⟩

set_option maxHeartbeats 1000000 in
set_option maxRecDepth 100000 in
theorem rset_any {w : World} {b p gb gd n : Nat} {v : Dv} {B : Nat → Nat} {D : Nat → Bool} (hB : RBus w b p gb gd n v B D) {s : ByteArray} (h : 1066 ≤ s.size) (hm : s.size ≤ maxLen) {T : Tm.Tm} {E1 : Int} {Dd : Dm.Dm} {E2 : Int} {G : Rg} {ok : Bool} {U : Ua.Ua} {E4 : Int}
    (P : Parts s T E1 Dd E2 G ok U E4) (q : Dv) (f : Int) (hq : E1 = 0 ∧ E2 = 0 ∧ ok = true ∧ E4 = 0 ∧ q = ⟨T, U, Dd, G, s.extract 42 1066⟩ ∧ f = 0 ∨ ¬ (E1 = 0 ∧ E2 = 0 ∧ ok = true ∧ E4 = 0) ∧ q = v ∧ f = 120) :
    Calls Tryz.prog 45 #[.pointer (some ⟨b, 0, none⟩), .string s] w fun e w' => e = .returned (.int .i64 f) ∧ RBus w' b p gb gd n q B D ∧ Kept [b] w w' := by
  obtain ⟨t1, t2, t3, t4, t5, t6, t7, t8, t9⟩ := rowRules
  obtain ⟨z1, z2, z3, z4, z5, z6, z7, z8, z9, z10⟩ := sizeRules
  obtain ⟨c1, c2, c3, c4, c5, o1, o2, o3, o4, o5, n1, n2, n3, n4, n5⟩ := cellSizes
  obtain ⟨a1, a2, a3, a4, a5, a6, a7, a8, a9, a10, a11, a12, x1, x2, x3⟩ := boxRules
  have hlen : ¬ ((s.size : Int) < 1066) := by omega
  have hl1 : (9 : Int) ≤ (s.size : Int) := by omega
  have hl2 : (26 : Int) ≤ (s.size : Int) := by omega
  have hl3 : (1066 : Int) ≤ (s.size : Int) := by omega
  have hl4 : (30 : Int) ≤ (s.size : Int) := by omega
  have hl5 : (34 : Int) ≤ (s.size : Int) := by omega
  have hl6 : (38 : Int) ≤ (s.size : Int) := by omega
  have hl7 : (42 : Int) ≤ (s.size : Int) := by omega
  have hyes := hide P.yes
  have hmg := P.mg
  have rt := hide P.rt
  have rd := hide P.rd
  have ru := hide P.ru
  have v0 := hide (part_val s h 0 (by omega))
  have v1 := hide (part_val s h 1 (by omega))
  have v2 := hide (part_val s h 2 (by omega))
  have v3 := hide (part_val s h 3 (by omega))
  simp only [Nat.reduceAdd, Nat.reduceMul] at v0 v1 v2 v3
  have hpw := partsG_w (s.extract 26 42)
  have w0 := hpw 0
  have w1 := hpw 1
  have w2 := hpw 2
  have w3 := hpw 3
  clear hpw P
  have hmg' : Hid ((ok = true ∧ G = ⟨partsG (s.extract 26 42) 0, partsG (s.extract 26 42) 1, partsG (s.extract 26 42) 2, partsG (s.extract 26 42) 3⟩ ∧ Wg G) ∨ (ok = false ∧ ∃ j, j < 4 ∧ 65520 < partsG (s.extract 26 42) j)) := hide hmg
  clear hmg
  obtain ⟨q0, hq0⟩ : ∃ q0, q0 = partsG (s.extract 26 42) := ⟨_, rfl⟩
  rw [← hq0] at hmg' v0 v1 v2 v3 w0 w1 w2 w3
  clear hq0
  replace hq := hide hq
  have H0 : Hid (RHold w w b p gb gd n v B D []) := hide ⟨hB, fun q hq => absurd hq (by simp), Below.refl _ _⟩
  clear hB
  go_enter Tryz.func45, Tryz.ntmps45
  go_wp2_with fail
  refine (rt.out _).mono ?_
  rintro e y2 ⟨rfl, b2⟩
  replace H0 := hide ((H0.out.on b2).new (Tm.cellsT T) 62)
  clear b2 rt
  go_wp2_with fail
  generalize hLt : y2.heap.size = Lt at *
  generalize y2.alloc (.cells (Tm.cellsT T) 62) = y3 at *
  clear hLt
  refine (rd.out _).mono ?_
  rintro e y4 ⟨rfl, b2⟩
  replace H0 := hide ((H0.out.on b2).new (Dm.cellsD Dd) 66)
  clear b2 rd
  go_wp2_with fail
  generalize hLt : y4.heap.size = Ld at *
  generalize y4.alloc (.cells (Dm.cellsD Dd) 66) = y5 at *
  clear hLt
  refine (ru.out _).mono ?_
  rintro e y6 ⟨rfl, b2⟩
  replace H0 := hide ((H0.out.on b2).new (Ua.cellsU U) 64)
  clear b2 ru
  go_wp2_with fail
  generalize hLt : y6.heap.size = Lu at *
  generalize y6.alloc (.cells (Ua.cellsU U) 64) = y7 at *
  clear hLt
  obtain ⟨k0, k1, k2, k3⟩ := gSets
  obtain ⟨f1, f2, f3, f4⟩ : ¬ N4 < 2 ∧ ¬ N4 < 3 ∧ ¬ N4 < 4 ∧ ¬ cellsG GZ = #[] := ⟨by decide, by decide, by decide, by simp [cellsG]⟩
  have i0 : IntKind.i64.wrap (q0 0) = q0 0 := by simp [IntKind.wrap, IntKind.bits, IntKind.signed]; omega
  have i1 : IntKind.i64.wrap (q0 1) = q0 1 := by simp [IntKind.wrap, IntKind.bits, IntKind.signed]; omega
  have i2 : IntKind.i64.wrap (q0 2) = q0 2 := by simp [IntKind.wrap, IntKind.bits, IntKind.signed]; omega
  have i3 : IntKind.i64.wrap (q0 3) = q0 3 := by simp [IntKind.wrap, IntKind.bits, IntKind.signed]; omega
  go_cut [11] from 33 (fun s11 x => ∃ Lg, s11 = .pointer (some ⟨Lg, 0, none⟩) ∧ Hid (Box x Lg (cellsG ⟨q0 0, q0 1, q0 2, q0 3⟩) ∧ y7.heap.size ≤ Lg ∧ Below y7.heap.size y7 x))
  case first =>
    clear t1 t2 t3 t4 t5 t6 t7 t8 t9
    refine wp_region_held_drew (S := fun x => Below y7.heap.size y7 x) (by kernel_rfl) (Below.refl _ y7).drew (fun hHeld => ?_)
    generalize y7.drew = xd at *
    refine wpAnyH_take (i := 0) (oi := ⟨some 33, .move (.tmp 1), 9, "ref.go:170", #[], none⟩) (v := ?_) rfl (by kernel_rfl) (by kernel_rfl) (by kernel_rfl) (fun _ _ _ h => h) (Or.inl ⟨by rfl, ?_⟩) (by assumption) ?_
    rotate_left
    · intro y hSw
      skip
      go_simp
      try with_reducible rfl
    try simp only [Act.put, List.setIfInBounds_toArray, List.set_cons_zero, List.set_cons_succ]
    refine wpAnyH_take (i := 1) (oi := ⟨some 34, .slice 9 (.tmp 33) (some (.const (.int .i64 26))) (some (.const (.int .i64 30))) none, 9, "ref.go:170", #[⟨0, .data⟩], none⟩) (v := ?_) rfl (by kernel_rfl) (by kernel_rfl) (by kernel_rfl) (fun _ _ _ h => h) (Or.inl ⟨by rfl, ?_⟩) (by assumption) ?_
    rotate_left
    · intro y hSw
      skip
      go_simp
      try with_reducible rfl
    try simp only [Act.put, List.setIfInBounds_toArray, List.set_cons_zero, List.set_cons_succ]
    refine wpAnyH_take (i := 4) (oi := ⟨some 37, .move (.tmp 1), 9, "ref.go:170", #[], none⟩) (v := ?_) rfl (by kernel_rfl) (by kernel_rfl) (by kernel_rfl) (fun _ _ _ h => h) (Or.inl ⟨by rfl, ?_⟩) (by assumption) ?_
    rotate_left
    · intro y hSw
      skip
      go_simp
      try with_reducible rfl
    try simp only [Act.put, List.setIfInBounds_toArray, List.set_cons_zero, List.set_cons_succ]
    refine wpAnyH_take (i := 5) (oi := ⟨some 38, .slice 9 (.tmp 37) (some (.const (.int .i64 30))) (some (.const (.int .i64 34))) none, 9, "ref.go:170", #[⟨4, .data⟩], none⟩) (v := ?_) rfl (by kernel_rfl) (by kernel_rfl) (by kernel_rfl) (fun _ _ _ h => h) (Or.inl ⟨by rfl, ?_⟩) (by assumption) ?_
    rotate_left
    · intro y hSw
      skip
      go_simp
      try with_reducible rfl
    try simp only [Act.put, List.setIfInBounds_toArray, List.set_cons_zero, List.set_cons_succ]
    refine wpAnyH_take (i := 8) (oi := ⟨some 41, .move (.tmp 1), 9, "ref.go:170", #[], none⟩) (v := ?_) rfl (by kernel_rfl) (by kernel_rfl) (by kernel_rfl) (fun _ _ _ h => h) (Or.inl ⟨by rfl, ?_⟩) (by assumption) ?_
    rotate_left
    · intro y hSw
      skip
      go_simp
      try with_reducible rfl
    try simp only [Act.put, List.setIfInBounds_toArray, List.set_cons_zero, List.set_cons_succ]
    refine wpAnyH_take (i := 9) (oi := ⟨some 42, .slice 9 (.tmp 41) (some (.const (.int .i64 34))) (some (.const (.int .i64 38))) none, 9, "ref.go:170", #[⟨8, .data⟩], none⟩) (v := ?_) rfl (by kernel_rfl) (by kernel_rfl) (by kernel_rfl) (fun _ _ _ h => h) (Or.inl ⟨by rfl, ?_⟩) (by assumption) ?_
    rotate_left
    · intro y hSw
      skip
      go_simp
      try with_reducible rfl
    try simp only [Act.put, List.setIfInBounds_toArray, List.set_cons_zero, List.set_cons_succ]
    refine wpAnyH_take (i := 12) (oi := ⟨some 45, .move (.tmp 1), 9, "ref.go:170", #[], none⟩) (v := ?_) rfl (by kernel_rfl) (by kernel_rfl) (by kernel_rfl) (fun _ _ _ h => h) (Or.inl ⟨by rfl, ?_⟩) (by assumption) ?_
    rotate_left
    · intro y hSw
      skip
      go_simp
      try with_reducible rfl
    try simp only [Act.put, List.setIfInBounds_toArray, List.set_cons_zero, List.set_cons_succ]
    refine wpAnyH_take (i := 13) (oi := ⟨some 46, .slice 9 (.tmp 45) (some (.const (.int .i64 38))) (some (.const (.int .i64 42))) none, 9, "ref.go:170", #[⟨12, .data⟩], none⟩) (v := ?_) rfl (by kernel_rfl) (by kernel_rfl) (by kernel_rfl) (fun _ _ _ h => h) (Or.inl ⟨by rfl, ?_⟩) (by assumption) ?_
    rotate_left
    · intro y hSw
      skip
      go_simp
      try with_reducible rfl
    try simp only [Act.put, List.setIfInBounds_toArray, List.set_cons_zero, List.set_cons_succ]
    refine wpAnyH_ready (rs := [2, 17]) (by kernel_rfl) (by simp) ?_
    refine AllReadyH.cons (o := ⟨some 35, .call { callee := .value (.func 120), args := #[.tmp 34], argTypes := #[9] }, 22, "ref.go:170", #[⟨1, .data⟩], none⟩) rfl (fun K hK => ?_) ?_
    · go_simp
      refine (v0.out _).mono ?_
      rintro e x1 ⟨rfl, rfl⟩
      go_wp2_with fail
      refine hK.out _ _ (hHeld) (fun hHeld => ?_)
      clear hK K
      try simp only [Act.put, List.setIfInBounds_toArray, List.set_cons_zero, List.set_cons_succ]
      refine wpAnyH_take (i := 3) (oi := ⟨some 36, .convert 22 3 (.tmp 35), 3, "ref.go:170", #[⟨2, .data⟩], none⟩) (v := ?_) rfl (by kernel_rfl) (by kernel_rfl) (by kernel_rfl) (fun _ _ _ h => h) (Or.inl ⟨by rfl, ?_⟩) (by assumption) ?_
      rotate_left
      · intro y hSw
        skip
        go_simp
        try with_reducible rfl
      try simp only [Act.put, List.setIfInBounds_toArray, List.set_cons_zero, List.set_cons_succ]
      refine wpAnyH_ready (rs := [6, 17]) (by kernel_rfl) (by simp) ?_
      refine AllReadyH.cons (o := ⟨some 39, .call { callee := .value (.func 120), args := #[.tmp 38], argTypes := #[9] }, 22, "ref.go:170", #[⟨5, .data⟩, ⟨2, .chain⟩], none⟩) rfl (fun K hK => ?_) ?_
      · go_simp
        refine (v1.out _).mono ?_
        rintro e x2 ⟨rfl, rfl⟩
        go_wp2_with fail
        refine hK.out _ _ (hHeld) (fun hHeld => ?_)
        clear hK K
        try simp only [Act.put, List.setIfInBounds_toArray, List.set_cons_zero, List.set_cons_succ]
        refine wpAnyH_take (i := 7) (oi := ⟨some 40, .convert 22 3 (.tmp 39), 3, "ref.go:170", #[⟨6, .data⟩], none⟩) (v := ?_) rfl (by kernel_rfl) (by kernel_rfl) (by kernel_rfl) (fun _ _ _ h => h) (Or.inl ⟨by rfl, ?_⟩) (by assumption) ?_
        rotate_left
        · intro y hSw
          skip
          go_simp
          try with_reducible rfl
        try simp only [Act.put, List.setIfInBounds_toArray, List.set_cons_zero, List.set_cons_succ]
        refine wpAnyH_ready (rs := [10, 17]) (by kernel_rfl) (by simp) ?_
        refine AllReadyH.cons (o := ⟨some 43, .call { callee := .value (.func 120), args := #[.tmp 42], argTypes := #[9] }, 22, "ref.go:170", #[⟨9, .data⟩, ⟨6, .chain⟩], none⟩) rfl (fun K hK => ?_) ?_
        · go_simp
          refine (v2.out _).mono ?_
          rintro e x3 ⟨rfl, rfl⟩
          go_wp2_with fail
          refine hK.out _ _ (hHeld) (fun hHeld => ?_)
          clear hK K
          try simp only [Act.put, List.setIfInBounds_toArray, List.set_cons_zero, List.set_cons_succ]
          refine wpAnyH_take (i := 11) (oi := ⟨some 44, .convert 22 3 (.tmp 43), 3, "ref.go:170", #[⟨10, .data⟩], none⟩) (v := ?_) rfl (by kernel_rfl) (by kernel_rfl) (by kernel_rfl) (fun _ _ _ h => h) (Or.inl ⟨by rfl, ?_⟩) (by assumption) ?_
          rotate_left
          · intro y hSw
            skip
            go_simp
            try with_reducible rfl
          try simp only [Act.put, List.setIfInBounds_toArray, List.set_cons_zero, List.set_cons_succ]
          refine wpAnyH_ready (rs := [14, 17]) (by kernel_rfl) (by simp) ?_
          refine AllReadyH.cons (o := ⟨some 47, .call { callee := .value (.func 120), args := #[.tmp 46], argTypes := #[9] }, 22, "ref.go:170", #[⟨13, .data⟩, ⟨10, .chain⟩], none⟩) rfl (fun K hK => ?_) ?_
          · go_simp
            refine (v3.out _).mono ?_
            rintro e x4 ⟨rfl, rfl⟩
            go_wp2_with fail
            refine hK.out _ _ (hHeld) (fun hHeld => ?_)
            clear hK K
            try simp only [Act.put, List.setIfInBounds_toArray, List.set_cons_zero, List.set_cons_succ]
            refine wpAnyH_take (i := 15) (oi := ⟨some 48, .convert 22 3 (.tmp 47), 3, "ref.go:170", #[⟨14, .data⟩], none⟩) (v := ?_) rfl (by kernel_rfl) (by kernel_rfl) (by kernel_rfl) (fun _ _ _ h => h) (Or.inl ⟨by rfl, ?_⟩) (by assumption) ?_
            rotate_left
            · intro y hSw
              skip
              go_simp
              try with_reducible rfl
            try simp only [Act.put, List.setIfInBounds_toArray, List.set_cons_zero, List.set_cons_succ]
            refine wpAnyH_take (i := 16) (oi := ⟨some 49, .build 68 #[(0, .tmp 36), (1, .tmp 40), (2, .tmp 44), (3, .tmp 48)], 68, "ref.go:170", #[⟨3, .data⟩, ⟨7, .data⟩, ⟨11, .data⟩, ⟨15, .data⟩], none⟩) (v := ?_) rfl (by kernel_rfl) (by kernel_rfl) (by kernel_rfl) (fun _ _ _ h => h) (Or.inl ⟨by rfl, ?_⟩) (by assumption) ?_
            rotate_left
            · intro y hSw
              skip
              go_simp
              try with_reducible rfl
            try simp only [Act.put, List.setIfInBounds_toArray, List.set_cons_zero, List.set_cons_succ]
            refine wpAnyH_ready (rs := [17]) (by kernel_rfl) (by simp) ?_
            refine AllReadyH.cons (o := ⟨some 11, .alloc 68, 0, "ref.go:170", #[], none⟩) rfl (fun K hK => ?_) AllReadyH.nil
            have gA := grow x4 (.cells (cellsG GZ) 68)
            have RB := Box.new x4 (cellsG GZ) 68
            have hLB : y7.heap.size ≤ x4.heap.size := hHeld.size
            go_simp
            refine hK.out _ _ (onto hHeld (Nat.le_refl _) gA) (fun hHeld => ?_)
            clear hK K
            try simp only [Act.put, List.setIfInBounds_toArray, List.set_cons_zero, List.set_cons_succ]
            clear gA
            generalize x4.alloc (.cells (cellsG GZ) 68) = x5 at *
            generalize x4.heap.size = LB at *
            refine wpAnyH_ready (rs := [18]) (by kernel_rfl) (by simp) ?_
            refine AllReadyH.cons (o := ⟨none, .store 68 (.tmp 11) (.tmp 49), 0, "ref.go:170", #[⟨17, .data⟩, ⟨16, .data⟩, ⟨14, .chain⟩, ⟨0, .phase⟩, ⟨1, .phase⟩, ⟨2, .phase⟩, ⟨3, .phase⟩, ⟨4, .phase⟩, ⟨5, .phase⟩, ⟨6, .phase⟩, ⟨7, .phase⟩, ⟨8, .phase⟩, ⟨9, .phase⟩, ⟨10, .phase⟩, ⟨11, .phase⟩, ⟨12, .phase⟩, ⟨13, .phase⟩, ⟨14, .phase⟩, ⟨15, .phase⟩, ⟨16, .phase⟩, ⟨17, .phase⟩], none⟩) rfl (fun K hK => ?_) AllReadyH.nil
            have hst := store_part x5 LB 0 (cellsG ⟨q0 0, q0 1, q0 2, q0 3⟩) RB.1 (by rw [RB.2.1]; rfl) rfl
            rw [RB.2.1, a12] at hst
            have RC := RB.set (cellsG ⟨q0 0, q0 1, q0 2, q0 3⟩)
            go_simp
            refine hK.out _ _ (below_setRow hHeld hLB _) (fun hHeld => ?_)
            clear hK K
            try simp only [Act.put, List.setIfInBounds_toArray, List.set_cons_zero, List.set_cons_succ]
            clear hst RB
            generalize x5.setRow LB (cellsG ⟨q0 0, q0 1, q0 2, q0 3⟩) = x6 at *
            refine wpAnyH_done (by kernel_rfl) ?_ _
            go_wp2_with fail
            go_meet
            case rel => exact ⟨LB, rfl, hide ⟨RC, hLB, hHeld⟩⟩
          refine AllReadyH.cons (o := ⟨some 11, .alloc 68, 0, "ref.go:170", #[], none⟩) rfl (fun K hK => ?_) AllReadyH.nil
          have gA := grow x3 (.cells (cellsG GZ) 68)
          have RB := Box.new x3 (cellsG GZ) 68
          have hLB : y7.heap.size ≤ x3.heap.size := hHeld.size
          go_simp
          refine hK.out _ _ (onto hHeld (Nat.le_refl _) gA) (fun hHeld => ?_)
          clear hK K
          try simp only [Act.put, List.setIfInBounds_toArray, List.set_cons_zero, List.set_cons_succ]
          clear gA
          generalize x3.alloc (.cells (cellsG GZ) 68) = x4 at *
          generalize x3.heap.size = LB at *
          refine wpAnyH_ready (rs := [14]) (by kernel_rfl) (by simp) ?_
          refine AllReadyH.cons (o := ⟨some 47, .call { callee := .value (.func 120), args := #[.tmp 46], argTypes := #[9] }, 22, "ref.go:170", #[⟨13, .data⟩, ⟨10, .chain⟩], none⟩) rfl (fun K hK => ?_) AllReadyH.nil
          go_simp
          refine (v3.out _).mono ?_
          rintro e x5 ⟨rfl, rfl⟩
          go_wp2_with fail
          refine hK.out _ _ (hHeld) (fun hHeld => ?_)
          clear hK K
          try simp only [Act.put, List.setIfInBounds_toArray, List.set_cons_zero, List.set_cons_succ]
          refine wpAnyH_take (i := 15) (oi := ⟨some 48, .convert 22 3 (.tmp 47), 3, "ref.go:170", #[⟨14, .data⟩], none⟩) (v := ?_) rfl (by kernel_rfl) (by kernel_rfl) (by kernel_rfl) (fun _ _ _ h => h) (Or.inl ⟨by rfl, ?_⟩) (by assumption) ?_
          rotate_left
          · intro y hSw
            skip
            go_simp
            try with_reducible rfl
          try simp only [Act.put, List.setIfInBounds_toArray, List.set_cons_zero, List.set_cons_succ]
          refine wpAnyH_take (i := 16) (oi := ⟨some 49, .build 68 #[(0, .tmp 36), (1, .tmp 40), (2, .tmp 44), (3, .tmp 48)], 68, "ref.go:170", #[⟨3, .data⟩, ⟨7, .data⟩, ⟨11, .data⟩, ⟨15, .data⟩], none⟩) (v := ?_) rfl (by kernel_rfl) (by kernel_rfl) (by kernel_rfl) (fun _ _ _ h => h) (Or.inl ⟨by rfl, ?_⟩) (by assumption) ?_
          rotate_left
          · intro y hSw
            skip
            go_simp
            try with_reducible rfl
          try simp only [Act.put, List.setIfInBounds_toArray, List.set_cons_zero, List.set_cons_succ]
          refine wpAnyH_ready (rs := [18]) (by kernel_rfl) (by simp) ?_
          refine AllReadyH.cons (o := ⟨none, .store 68 (.tmp 11) (.tmp 49), 0, "ref.go:170", #[⟨17, .data⟩, ⟨16, .data⟩, ⟨14, .chain⟩, ⟨0, .phase⟩, ⟨1, .phase⟩, ⟨2, .phase⟩, ⟨3, .phase⟩, ⟨4, .phase⟩, ⟨5, .phase⟩, ⟨6, .phase⟩, ⟨7, .phase⟩, ⟨8, .phase⟩, ⟨9, .phase⟩, ⟨10, .phase⟩, ⟨11, .phase⟩, ⟨12, .phase⟩, ⟨13, .phase⟩, ⟨14, .phase⟩, ⟨15, .phase⟩, ⟨16, .phase⟩, ⟨17, .phase⟩], none⟩) rfl (fun K hK => ?_) AllReadyH.nil
          have hst := store_part x5 LB 0 (cellsG ⟨q0 0, q0 1, q0 2, q0 3⟩) RB.1 (by rw [RB.2.1]; rfl) rfl
          rw [RB.2.1, a12] at hst
          have RC := RB.set (cellsG ⟨q0 0, q0 1, q0 2, q0 3⟩)
          go_simp
          refine hK.out _ _ (below_setRow hHeld hLB _) (fun hHeld => ?_)
          clear hK K
          try simp only [Act.put, List.setIfInBounds_toArray, List.set_cons_zero, List.set_cons_succ]
          clear hst RB
          generalize x5.setRow LB (cellsG ⟨q0 0, q0 1, q0 2, q0 3⟩) = x6 at *
          refine wpAnyH_done (by kernel_rfl) ?_ _
          go_wp2_with fail
          go_meet
          case rel => exact ⟨LB, rfl, hide ⟨RC, hLB, hHeld⟩⟩
        refine AllReadyH.cons (o := ⟨some 11, .alloc 68, 0, "ref.go:170", #[], none⟩) rfl (fun K hK => ?_) AllReadyH.nil
        have gA := grow x2 (.cells (cellsG GZ) 68)
        have RB := Box.new x2 (cellsG GZ) 68
        have hLB : y7.heap.size ≤ x2.heap.size := hHeld.size
        go_simp
        refine hK.out _ _ (onto hHeld (Nat.le_refl _) gA) (fun hHeld => ?_)
        clear hK K
        try simp only [Act.put, List.setIfInBounds_toArray, List.set_cons_zero, List.set_cons_succ]
        clear gA
        generalize x2.alloc (.cells (cellsG GZ) 68) = x3 at *
        generalize x2.heap.size = LB at *
        refine wpAnyH_ready (rs := [10]) (by kernel_rfl) (by simp) ?_
        refine AllReadyH.cons (o := ⟨some 43, .call { callee := .value (.func 120), args := #[.tmp 42], argTypes := #[9] }, 22, "ref.go:170", #[⟨9, .data⟩, ⟨6, .chain⟩], none⟩) rfl (fun K hK => ?_) AllReadyH.nil
        go_simp
        refine (v2.out _).mono ?_
        rintro e x4 ⟨rfl, rfl⟩
        go_wp2_with fail
        refine hK.out _ _ (hHeld) (fun hHeld => ?_)
        clear hK K
        try simp only [Act.put, List.setIfInBounds_toArray, List.set_cons_zero, List.set_cons_succ]
        refine wpAnyH_take (i := 11) (oi := ⟨some 44, .convert 22 3 (.tmp 43), 3, "ref.go:170", #[⟨10, .data⟩], none⟩) (v := ?_) rfl (by kernel_rfl) (by kernel_rfl) (by kernel_rfl) (fun _ _ _ h => h) (Or.inl ⟨by rfl, ?_⟩) (by assumption) ?_
        rotate_left
        · intro y hSw
          skip
          go_simp
          try with_reducible rfl
        try simp only [Act.put, List.setIfInBounds_toArray, List.set_cons_zero, List.set_cons_succ]
        refine wpAnyH_ready (rs := [14]) (by kernel_rfl) (by simp) ?_
        refine AllReadyH.cons (o := ⟨some 47, .call { callee := .value (.func 120), args := #[.tmp 46], argTypes := #[9] }, 22, "ref.go:170", #[⟨13, .data⟩, ⟨10, .chain⟩], none⟩) rfl (fun K hK => ?_) AllReadyH.nil
        go_simp
        refine (v3.out _).mono ?_
        rintro e x5 ⟨rfl, rfl⟩
        go_wp2_with fail
        refine hK.out _ _ (hHeld) (fun hHeld => ?_)
        clear hK K
        try simp only [Act.put, List.setIfInBounds_toArray, List.set_cons_zero, List.set_cons_succ]
        refine wpAnyH_take (i := 15) (oi := ⟨some 48, .convert 22 3 (.tmp 47), 3, "ref.go:170", #[⟨14, .data⟩], none⟩) (v := ?_) rfl (by kernel_rfl) (by kernel_rfl) (by kernel_rfl) (fun _ _ _ h => h) (Or.inl ⟨by rfl, ?_⟩) (by assumption) ?_
        rotate_left
        · intro y hSw
          skip
          go_simp
          try with_reducible rfl
        try simp only [Act.put, List.setIfInBounds_toArray, List.set_cons_zero, List.set_cons_succ]
        refine wpAnyH_take (i := 16) (oi := ⟨some 49, .build 68 #[(0, .tmp 36), (1, .tmp 40), (2, .tmp 44), (3, .tmp 48)], 68, "ref.go:170", #[⟨3, .data⟩, ⟨7, .data⟩, ⟨11, .data⟩, ⟨15, .data⟩], none⟩) (v := ?_) rfl (by kernel_rfl) (by kernel_rfl) (by kernel_rfl) (fun _ _ _ h => h) (Or.inl ⟨by rfl, ?_⟩) (by assumption) ?_
        rotate_left
        · intro y hSw
          skip
          go_simp
          try with_reducible rfl
        try simp only [Act.put, List.setIfInBounds_toArray, List.set_cons_zero, List.set_cons_succ]
        refine wpAnyH_ready (rs := [18]) (by kernel_rfl) (by simp) ?_
        refine AllReadyH.cons (o := ⟨none, .store 68 (.tmp 11) (.tmp 49), 0, "ref.go:170", #[⟨17, .data⟩, ⟨16, .data⟩, ⟨14, .chain⟩, ⟨0, .phase⟩, ⟨1, .phase⟩, ⟨2, .phase⟩, ⟨3, .phase⟩, ⟨4, .phase⟩, ⟨5, .phase⟩, ⟨6, .phase⟩, ⟨7, .phase⟩, ⟨8, .phase⟩, ⟨9, .phase⟩, ⟨10, .phase⟩, ⟨11, .phase⟩, ⟨12, .phase⟩, ⟨13, .phase⟩, ⟨14, .phase⟩, ⟨15, .phase⟩, ⟨16, .phase⟩, ⟨17, .phase⟩], none⟩) rfl (fun K hK => ?_) AllReadyH.nil
        have hst := store_part x5 LB 0 (cellsG ⟨q0 0, q0 1, q0 2, q0 3⟩) RB.1 (by rw [RB.2.1]; rfl) rfl
        rw [RB.2.1, a12] at hst
        have RC := RB.set (cellsG ⟨q0 0, q0 1, q0 2, q0 3⟩)
        go_simp
        refine hK.out _ _ (below_setRow hHeld hLB _) (fun hHeld => ?_)
        clear hK K
        try simp only [Act.put, List.setIfInBounds_toArray, List.set_cons_zero, List.set_cons_succ]
        clear hst RB
        generalize x5.setRow LB (cellsG ⟨q0 0, q0 1, q0 2, q0 3⟩) = x6 at *
        refine wpAnyH_done (by kernel_rfl) ?_ _
        go_wp2_with fail
        go_meet
        case rel => exact ⟨LB, rfl, hide ⟨RC, hLB, hHeld⟩⟩
      refine AllReadyH.cons (o := ⟨some 11, .alloc 68, 0, "ref.go:170", #[], none⟩) rfl (fun K hK => ?_) AllReadyH.nil
      have gA := grow x1 (.cells (cellsG GZ) 68)
      have RB := Box.new x1 (cellsG GZ) 68
      have hLB : y7.heap.size ≤ x1.heap.size := hHeld.size
      go_simp
      refine hK.out _ _ (onto hHeld (Nat.le_refl _) gA) (fun hHeld => ?_)
      clear hK K
      try simp only [Act.put, List.setIfInBounds_toArray, List.set_cons_zero, List.set_cons_succ]
      clear gA
      generalize x1.alloc (.cells (cellsG GZ) 68) = x2 at *
      generalize x1.heap.size = LB at *
      refine wpAnyH_ready (rs := [6]) (by kernel_rfl) (by simp) ?_
      refine AllReadyH.cons (o := ⟨some 39, .call { callee := .value (.func 120), args := #[.tmp 38], argTypes := #[9] }, 22, "ref.go:170", #[⟨5, .data⟩, ⟨2, .chain⟩], none⟩) rfl (fun K hK => ?_) AllReadyH.nil
      go_simp
      refine (v1.out _).mono ?_
      rintro e x3 ⟨rfl, rfl⟩
      go_wp2_with fail
      refine hK.out _ _ (hHeld) (fun hHeld => ?_)
      clear hK K
      try simp only [Act.put, List.setIfInBounds_toArray, List.set_cons_zero, List.set_cons_succ]
      refine wpAnyH_take (i := 7) (oi := ⟨some 40, .convert 22 3 (.tmp 39), 3, "ref.go:170", #[⟨6, .data⟩], none⟩) (v := ?_) rfl (by kernel_rfl) (by kernel_rfl) (by kernel_rfl) (fun _ _ _ h => h) (Or.inl ⟨by rfl, ?_⟩) (by assumption) ?_
      rotate_left
      · intro y hSw
        skip
        go_simp
        try with_reducible rfl
      try simp only [Act.put, List.setIfInBounds_toArray, List.set_cons_zero, List.set_cons_succ]
      refine wpAnyH_ready (rs := [10]) (by kernel_rfl) (by simp) ?_
      refine AllReadyH.cons (o := ⟨some 43, .call { callee := .value (.func 120), args := #[.tmp 42], argTypes := #[9] }, 22, "ref.go:170", #[⟨9, .data⟩, ⟨6, .chain⟩], none⟩) rfl (fun K hK => ?_) AllReadyH.nil
      go_simp
      refine (v2.out _).mono ?_
      rintro e x4 ⟨rfl, rfl⟩
      go_wp2_with fail
      refine hK.out _ _ (hHeld) (fun hHeld => ?_)
      clear hK K
      try simp only [Act.put, List.setIfInBounds_toArray, List.set_cons_zero, List.set_cons_succ]
      refine wpAnyH_take (i := 11) (oi := ⟨some 44, .convert 22 3 (.tmp 43), 3, "ref.go:170", #[⟨10, .data⟩], none⟩) (v := ?_) rfl (by kernel_rfl) (by kernel_rfl) (by kernel_rfl) (fun _ _ _ h => h) (Or.inl ⟨by rfl, ?_⟩) (by assumption) ?_
      rotate_left
      · intro y hSw
        skip
        go_simp
        try with_reducible rfl
      try simp only [Act.put, List.setIfInBounds_toArray, List.set_cons_zero, List.set_cons_succ]
      refine wpAnyH_ready (rs := [14]) (by kernel_rfl) (by simp) ?_
      refine AllReadyH.cons (o := ⟨some 47, .call { callee := .value (.func 120), args := #[.tmp 46], argTypes := #[9] }, 22, "ref.go:170", #[⟨13, .data⟩, ⟨10, .chain⟩], none⟩) rfl (fun K hK => ?_) AllReadyH.nil
      go_simp
      refine (v3.out _).mono ?_
      rintro e x5 ⟨rfl, rfl⟩
      go_wp2_with fail
      refine hK.out _ _ (hHeld) (fun hHeld => ?_)
      clear hK K
      try simp only [Act.put, List.setIfInBounds_toArray, List.set_cons_zero, List.set_cons_succ]
      refine wpAnyH_take (i := 15) (oi := ⟨some 48, .convert 22 3 (.tmp 47), 3, "ref.go:170", #[⟨14, .data⟩], none⟩) (v := ?_) rfl (by kernel_rfl) (by kernel_rfl) (by kernel_rfl) (fun _ _ _ h => h) (Or.inl ⟨by rfl, ?_⟩) (by assumption) ?_
      rotate_left
      · intro y hSw
        skip
        go_simp
        try with_reducible rfl
      try simp only [Act.put, List.setIfInBounds_toArray, List.set_cons_zero, List.set_cons_succ]
      refine wpAnyH_take (i := 16) (oi := ⟨some 49, .build 68 #[(0, .tmp 36), (1, .tmp 40), (2, .tmp 44), (3, .tmp 48)], 68, "ref.go:170", #[⟨3, .data⟩, ⟨7, .data⟩, ⟨11, .data⟩, ⟨15, .data⟩], none⟩) (v := ?_) rfl (by kernel_rfl) (by kernel_rfl) (by kernel_rfl) (fun _ _ _ h => h) (Or.inl ⟨by rfl, ?_⟩) (by assumption) ?_
      rotate_left
      · intro y hSw
        skip
        go_simp
        try with_reducible rfl
      try simp only [Act.put, List.setIfInBounds_toArray, List.set_cons_zero, List.set_cons_succ]
      refine wpAnyH_ready (rs := [18]) (by kernel_rfl) (by simp) ?_
      refine AllReadyH.cons (o := ⟨none, .store 68 (.tmp 11) (.tmp 49), 0, "ref.go:170", #[⟨17, .data⟩, ⟨16, .data⟩, ⟨14, .chain⟩, ⟨0, .phase⟩, ⟨1, .phase⟩, ⟨2, .phase⟩, ⟨3, .phase⟩, ⟨4, .phase⟩, ⟨5, .phase⟩, ⟨6, .phase⟩, ⟨7, .phase⟩, ⟨8, .phase⟩, ⟨9, .phase⟩, ⟨10, .phase⟩, ⟨11, .phase⟩, ⟨12, .phase⟩, ⟨13, .phase⟩, ⟨14, .phase⟩, ⟨15, .phase⟩, ⟨16, .phase⟩, ⟨17, .phase⟩], none⟩) rfl (fun K hK => ?_) AllReadyH.nil
      have hst := store_part x5 LB 0 (cellsG ⟨q0 0, q0 1, q0 2, q0 3⟩) RB.1 (by rw [RB.2.1]; rfl) rfl
      rw [RB.2.1, a12] at hst
      have RC := RB.set (cellsG ⟨q0 0, q0 1, q0 2, q0 3⟩)
      go_simp
      refine hK.out _ _ (below_setRow hHeld hLB _) (fun hHeld => ?_)
      clear hK K
      try simp only [Act.put, List.setIfInBounds_toArray, List.set_cons_zero, List.set_cons_succ]
      clear hst RB
      generalize x5.setRow LB (cellsG ⟨q0 0, q0 1, q0 2, q0 3⟩) = x6 at *
      refine wpAnyH_done (by kernel_rfl) ?_ _
      go_wp2_with fail
      go_meet
      case rel => exact ⟨LB, rfl, hide ⟨RC, hLB, hHeld⟩⟩
    refine AllReadyH.cons (o := ⟨some 11, .alloc 68, 0, "ref.go:170", #[], none⟩) rfl (fun K hK => ?_) AllReadyH.nil
    have gA := grow xd (.cells (cellsG GZ) 68)
    have RB := Box.new xd (cellsG GZ) 68
    have hLB : y7.heap.size ≤ xd.heap.size := hHeld.size
    go_simp
    refine hK.out _ _ (onto hHeld (Nat.le_refl _) gA) (fun hHeld => ?_)
    clear hK K
    try simp only [Act.put, List.setIfInBounds_toArray, List.set_cons_zero, List.set_cons_succ]
    clear gA
    generalize xd.alloc (.cells (cellsG GZ) 68) = x1 at *
    generalize xd.heap.size = LB at *
    refine wpAnyH_ready (rs := [2]) (by kernel_rfl) (by simp) ?_
    refine AllReadyH.cons (o := ⟨some 35, .call { callee := .value (.func 120), args := #[.tmp 34], argTypes := #[9] }, 22, "ref.go:170", #[⟨1, .data⟩], none⟩) rfl (fun K hK => ?_) AllReadyH.nil
    go_simp
    refine (v0.out _).mono ?_
    rintro e x2 ⟨rfl, rfl⟩
    go_wp2_with fail
    refine hK.out _ _ (hHeld) (fun hHeld => ?_)
    clear hK K
    try simp only [Act.put, List.setIfInBounds_toArray, List.set_cons_zero, List.set_cons_succ]
    refine wpAnyH_take (i := 3) (oi := ⟨some 36, .convert 22 3 (.tmp 35), 3, "ref.go:170", #[⟨2, .data⟩], none⟩) (v := ?_) rfl (by kernel_rfl) (by kernel_rfl) (by kernel_rfl) (fun _ _ _ h => h) (Or.inl ⟨by rfl, ?_⟩) (by assumption) ?_
    rotate_left
    · intro y hSw
      skip
      go_simp
      try with_reducible rfl
    try simp only [Act.put, List.setIfInBounds_toArray, List.set_cons_zero, List.set_cons_succ]
    refine wpAnyH_ready (rs := [6]) (by kernel_rfl) (by simp) ?_
    refine AllReadyH.cons (o := ⟨some 39, .call { callee := .value (.func 120), args := #[.tmp 38], argTypes := #[9] }, 22, "ref.go:170", #[⟨5, .data⟩, ⟨2, .chain⟩], none⟩) rfl (fun K hK => ?_) AllReadyH.nil
    go_simp
    refine (v1.out _).mono ?_
    rintro e x3 ⟨rfl, rfl⟩
    go_wp2_with fail
    refine hK.out _ _ (hHeld) (fun hHeld => ?_)
    clear hK K
    try simp only [Act.put, List.setIfInBounds_toArray, List.set_cons_zero, List.set_cons_succ]
    refine wpAnyH_take (i := 7) (oi := ⟨some 40, .convert 22 3 (.tmp 39), 3, "ref.go:170", #[⟨6, .data⟩], none⟩) (v := ?_) rfl (by kernel_rfl) (by kernel_rfl) (by kernel_rfl) (fun _ _ _ h => h) (Or.inl ⟨by rfl, ?_⟩) (by assumption) ?_
    rotate_left
    · intro y hSw
      skip
      go_simp
      try with_reducible rfl
    try simp only [Act.put, List.setIfInBounds_toArray, List.set_cons_zero, List.set_cons_succ]
    refine wpAnyH_ready (rs := [10]) (by kernel_rfl) (by simp) ?_
    refine AllReadyH.cons (o := ⟨some 43, .call { callee := .value (.func 120), args := #[.tmp 42], argTypes := #[9] }, 22, "ref.go:170", #[⟨9, .data⟩, ⟨6, .chain⟩], none⟩) rfl (fun K hK => ?_) AllReadyH.nil
    go_simp
    refine (v2.out _).mono ?_
    rintro e x4 ⟨rfl, rfl⟩
    go_wp2_with fail
    refine hK.out _ _ (hHeld) (fun hHeld => ?_)
    clear hK K
    try simp only [Act.put, List.setIfInBounds_toArray, List.set_cons_zero, List.set_cons_succ]
    refine wpAnyH_take (i := 11) (oi := ⟨some 44, .convert 22 3 (.tmp 43), 3, "ref.go:170", #[⟨10, .data⟩], none⟩) (v := ?_) rfl (by kernel_rfl) (by kernel_rfl) (by kernel_rfl) (fun _ _ _ h => h) (Or.inl ⟨by rfl, ?_⟩) (by assumption) ?_
    rotate_left
    · intro y hSw
      skip
      go_simp
      try with_reducible rfl
    try simp only [Act.put, List.setIfInBounds_toArray, List.set_cons_zero, List.set_cons_succ]
    refine wpAnyH_ready (rs := [14]) (by kernel_rfl) (by simp) ?_
    refine AllReadyH.cons (o := ⟨some 47, .call { callee := .value (.func 120), args := #[.tmp 46], argTypes := #[9] }, 22, "ref.go:170", #[⟨13, .data⟩, ⟨10, .chain⟩], none⟩) rfl (fun K hK => ?_) AllReadyH.nil
    go_simp
    refine (v3.out _).mono ?_
    rintro e x5 ⟨rfl, rfl⟩
    go_wp2_with fail
    refine hK.out _ _ (hHeld) (fun hHeld => ?_)
    clear hK K
    try simp only [Act.put, List.setIfInBounds_toArray, List.set_cons_zero, List.set_cons_succ]
    refine wpAnyH_take (i := 15) (oi := ⟨some 48, .convert 22 3 (.tmp 47), 3, "ref.go:170", #[⟨14, .data⟩], none⟩) (v := ?_) rfl (by kernel_rfl) (by kernel_rfl) (by kernel_rfl) (fun _ _ _ h => h) (Or.inl ⟨by rfl, ?_⟩) (by assumption) ?_
    rotate_left
    · intro y hSw
      skip
      go_simp
      try with_reducible rfl
    try simp only [Act.put, List.setIfInBounds_toArray, List.set_cons_zero, List.set_cons_succ]
    refine wpAnyH_take (i := 16) (oi := ⟨some 49, .build 68 #[(0, .tmp 36), (1, .tmp 40), (2, .tmp 44), (3, .tmp 48)], 68, "ref.go:170", #[⟨3, .data⟩, ⟨7, .data⟩, ⟨11, .data⟩, ⟨15, .data⟩], none⟩) (v := ?_) rfl (by kernel_rfl) (by kernel_rfl) (by kernel_rfl) (fun _ _ _ h => h) (Or.inl ⟨by rfl, ?_⟩) (by assumption) ?_
    rotate_left
    · intro y hSw
      skip
      go_simp
      try with_reducible rfl
    try simp only [Act.put, List.setIfInBounds_toArray, List.set_cons_zero, List.set_cons_succ]
    refine wpAnyH_ready (rs := [18]) (by kernel_rfl) (by simp) ?_
    refine AllReadyH.cons (o := ⟨none, .store 68 (.tmp 11) (.tmp 49), 0, "ref.go:170", #[⟨17, .data⟩, ⟨16, .data⟩, ⟨14, .chain⟩, ⟨0, .phase⟩, ⟨1, .phase⟩, ⟨2, .phase⟩, ⟨3, .phase⟩, ⟨4, .phase⟩, ⟨5, .phase⟩, ⟨6, .phase⟩, ⟨7, .phase⟩, ⟨8, .phase⟩, ⟨9, .phase⟩, ⟨10, .phase⟩, ⟨11, .phase⟩, ⟨12, .phase⟩, ⟨13, .phase⟩, ⟨14, .phase⟩, ⟨15, .phase⟩, ⟨16, .phase⟩, ⟨17, .phase⟩], none⟩) rfl (fun K hK => ?_) AllReadyH.nil
    have hst := store_part x5 LB 0 (cellsG ⟨q0 0, q0 1, q0 2, q0 3⟩) RB.1 (by rw [RB.2.1]; rfl) rfl
    rw [RB.2.1, a12] at hst
    have RC := RB.set (cellsG ⟨q0 0, q0 1, q0 2, q0 3⟩)
    go_simp
    refine hK.out _ _ (below_setRow hHeld hLB _) (fun hHeld => ?_)
    clear hK K
    try simp only [Act.put, List.setIfInBounds_toArray, List.set_cons_zero, List.set_cons_succ]
    clear hst RB
    generalize x5.setRow LB (cellsG ⟨q0 0, q0 1, q0 2, q0 3⟩) = x6 at *
    refine wpAnyH_done (by kernel_rfl) ?_ _
    go_wp2_with fail
    go_meet
    case rel => exact ⟨LB, rfl, hide ⟨RC, hLB, hHeld⟩⟩

  case rest =>
    obtain ⟨Lg, rfl, HC⟩ := hcut
    have H1 : Hid (RHold w wc b p gb gd n v B D [(Lg, cellsG ⟨q0 0, q0 1, q0 2, q0 3⟩), (Lu, Ua.cellsU U), (Ld, Dm.cellsD Dd), (Lt, Tm.cellsT T)]) := hide (by
      have h2 := H0.out.on HC.out.2.2
      refine ⟨h2.bus, fun q hq => ?_, h2.be⟩
      rcases List.mem_cons.1 hq with rfl | hq
      · exact ⟨HC.out.1, by have := H0.out.bus.lt; have := HC.out.2.1; show Lg ≠ b; omega, by have := H0.out.be.size; have := HC.out.2.1; show w.heap.size ≤ Lg; omega⟩
      · exact h2.all q hq)
    clear HC H0 i0 i1 i2 i3 k0 k1 k2 k3 v0 v1 v2 v3
    obtain ⟨Rr, hRr⟩ : ∃ Rr, Rr = (⟨q0 0, q0 1, q0 2, q0 3⟩ : Rg) := ⟨_, rfl⟩
    rw [← hRr] at H1
    have hL : Hid ((ok = true ∧ G = Rr ∧ leastG Rr = Rr) ∨ (ok = false ∧ ¬ leastG Rr = Rr)) := hide (by
      rcases hmg'.out with ⟨h1, h2, h3⟩ | ⟨h1, h2⟩
      · refine Or.inl ⟨h1, by rw [hRr]; exact h2, ?_⟩
        have : Rr = G := by rw [hRr]; exact h2.symm
        rw [this]
        exact least_yes h3
      · exact Or.inr ⟨h1, by rw [hRr]; exact least_no h2⟩)
    clear hRr hmg' w0 w1 w2 w3 f1 f2 f3 f4
    have bad : ¬ (E1 = 0 ∧ E2 = 0 ∧ ok = true ∧ E4 = 0) → q = v ∧ f = 120 := fun hb => by
      rcases hq.out with ⟨h1, h2, h3, h4, -, -⟩ | ⟨-, h1, h2⟩
      · exact absurd ⟨h1, h2, h3, h4⟩ hb
      · exact ⟨h1, h2⟩
    replace bad := hide bad
    have fin : ∀ y : World, Below wc.heap.size wc y → RBus y b p gb gd n v B D ∧ Kept [b] w y := fun y hy => ⟨H1.out.bus.on hy, Kept.of (onto H1.out.be (Nat.le_refl _) hy)⟩
    replace fin := hide fin
    have hS : Box wc.drew Lg (cellsG Rr) ∧ Below wc.heap.size wc wc.drew := ⟨(H1.out.all (Lg, cellsG Rr) (by simp)).1.drew, (Below.refl _ _).drew⟩
    have hne : Nonempty (HeldG wc Lg Rr) := ⟨⟨wc.drew, hS⟩⟩
    have hld := fun y : HeldG wc Lg Rr => y.load
    have hneq := fun y : World => neqG (leastG Rr) Rr y
    by_cases h1 : E1 = 0
    · subst h1
      by_cases h2 : E2 = 0
      · subst h2
        by_cases h4 : E4 = 0
        · subst h4
          by_cases hle : leastG Rr = Rr
          · rw [decide_eq_true hle] at hneq
            have good : ok = true ∧ G = Rr := by
              rcases hL.out with ⟨g1, g2, -⟩ | ⟨-, g2⟩
              · exact ⟨g1, g2⟩
              · exact absurd hle g2
            obtain ⟨rfl, rfl⟩ := good
            have hv : q = ⟨T, U, Dd, G, s.extract 42 1066⟩ ∧ f = 0 := by
              rcases hq.out with ⟨-, -, -, -, g1, g2⟩ | ⟨g1, -, -⟩
              · exact ⟨g1, g2⟩
              · exact absurd ⟨rfl, rfl, rfl, rfl⟩ g1
            obtain ⟨rfl, rfl⟩ := hv
            have hW := hide (hyes.out rfl rfl rfl rfl).1
            replace hle := hide hle
            clear hq hyes hL bad
            go_wp2_with fail
            refine region_calm (fun x => ∃ y : HeldG wc Lg G, x = y.x) (by kernel_rfl) (by kernel_rfl) ⟨⟨wc.drew, hS⟩, rfl⟩ ?_
            clear hS
            repeat (go_big_quiet_step (first
              | (go_at_call 121; refine (least_g G _).mono ?_; rintro e wf ⟨rfl, bf⟩; exact ⟨rfl, HeldG.on _ bf, rfl⟩)))
            refine wpQuiet_nil ?_
            rintro _ ⟨y, rfl⟩
            have H2 := H1.out.on y.h.2
            obtain ⟨g1, g2⟩ := And.intro H2.bus.row H2.bus.at'
            obtain ⟨g3, g4⟩ := And.intro (H2.all (Lt, Tm.cellsT T) (by simp)).1.1 (H2.all (Lt, Tm.cellsT T) (by simp)).1.2.1
            obtain ⟨g5, g6⟩ := And.intro (H2.all (Ld, Dm.cellsD Dd) (by simp)).1.1 (H2.all (Ld, Dm.cellsD Dd) (by simp)).1.2.1
            obtain ⟨g7, g8⟩ := And.intro (H2.all (Lu, Ua.cellsU U) (by simp)).1.1 (H2.all (Lu, Ua.cellsU U) (by simp)).1.2.1
            obtain ⟨g9, g10⟩ := And.intro (H2.all (Lg, cellsG G) (by simp)).1.1 (H2.all (Lg, cellsG G) (by simp)).1.2.1
            have e1 : ¬ Lt = b := (H2.all (Lt, Tm.cellsT T) (by simp)).2.1
            have e2 : ¬ Ld = b := (H2.all (Ld, Dm.cellsD Dd) (by simp)).2.1
            have e3 : ¬ Lu = b := (H2.all (Lu, Ua.cellsU U) (by simp)).2.1
            have e4 : ¬ Lg = b := (H2.all (Lg, cellsG G) (by simp)).2.1
            have wv := H2.bus.wv
            have B1 := H2.bus.set { v with t := T } ⟨hW.out.t, wv.u, wv.d, wv.g, wv.k⟩
            have B2 := B1.set { v with t := T, d := Dd } ⟨hW.out.t, wv.u, hW.out.d, wv.g, wv.k⟩
            have B3 := B2.set { v with t := T, d := Dd, u := U } ⟨hW.out.t, hW.out.u, hW.out.d, wv.g, wv.k⟩
            have B4 := B3.set { v with t := T, d := Dd, u := U, g := G } ⟨hW.out.t, hW.out.u, hW.out.d, hW.out.g, wv.k⟩
            have B5 := hide (B4.setK (s.extract 42 1066) hW.out)
            have K5 := hide (((((Kept.of (l := [b]) H2.be).trans (Kept.set y.x b (cellsM { v with t := T } p) (by simp))).trans (Kept.set _ b (cellsM { v with t := T, d := Dd } p) (by simp))).trans (Kept.set _ b (cellsM { v with t := T, d := Dd, u := U } p) (by simp))).trans (Kept.set _ b (cellsM { v with t := T, d := Dd, u := U, g := G } p) (by simp)))
            have kc := B4.cell 16
            have kf := B4.free 16
            obtain ⟨y1, y2⟩ := rowSets
            obtain ⟨f1, f2, f3, f4, p1, p2, p3, p4, s1, s2, s3, s4, -, -, -, -, -, -, -, -, -, m16, -⟩ := mParts
            clear H2 H1 fin B1 B2 B3 B4 wv hne hld hneq
            go_wp2
            go_ret
            exact ⟨rfl, B5.out, K5.out.trans (Kept.cell _ b 16 _ (by simp))⟩
          · rw [decide_eq_false hle] at hneq
            have good : ok = false := by
              rcases hL.out with ⟨-, -, g2⟩ | ⟨g1, -⟩
              · exact absurd g2 hle
              · exact g1
            subst good
            obtain ⟨rfl, rfl⟩ := bad.out (fun h => by cases h.2.2.1)
            clear hq hyes hL bad hle
            go_wp2_with fail
            refine region_calm (fun x => ∃ y : HeldG wc Lg Rr, x = y.x) (by kernel_rfl) (by kernel_rfl) ⟨⟨wc.drew, hS⟩, rfl⟩ ?_
            clear hS
            repeat (go_big_quiet_step (first
              | (go_at_call 121; refine (least_g Rr _).mono ?_; rintro e wf ⟨rfl, bf⟩; exact ⟨rfl, HeldG.on _ bf, rfl⟩)))
            refine wpQuiet_nil ?_
            rintro _ ⟨y, rfl⟩
            have fy := hide (fin.out y.x y.h.2)
            go_wp2
            go_ret
            exact ⟨rfl, fy.out.1, fy.out.2⟩
        · obtain ⟨rfl, rfl⟩ := bad.out (fun h => h4 h.2.2.2)
          have h4' : (E4 == 0) = false := by simpa using h4
          have n1' : (E4 != 0) = true := by simpa using h4
          have n2' : decide (E4 = 0) = false := by simpa using h4
          have n3' : (!decide (E4 = 0)) = true := by simpa using h4
          clear hq hyes hL bad
          go_wp2_with fail
          refine region_calm (fun x => ∃ y : HeldG wc Lg Rr, x = y.x) (by kernel_rfl) (by kernel_rfl) ⟨⟨wc.drew, hS⟩, rfl⟩ ?_
          clear hS
          repeat (go_big_quiet_step (first
            | (go_at_call 121; refine (least_g Rr _).mono ?_; rintro e wf ⟨rfl, bf⟩; exact ⟨rfl, HeldG.on _ bf, rfl⟩)))
          refine wpQuiet_nil ?_
          rintro _ ⟨y, rfl⟩
          have fy := hide (fin.out y.x y.h.2)
          go_wp2
          go_ret
          exact ⟨rfl, fy.out.1, fy.out.2⟩
      · obtain ⟨rfl, rfl⟩ := bad.out (fun h => h2 h.2.1)
        have h4' : (E2 == 0) = false := by simpa using h2
        have n1' : (E2 != 0) = true := by simpa using h2
        have n2' : decide (E2 = 0) = false := by simpa using h2
        have n3' : (!decide (E2 = 0)) = true := by simpa using h2
        clear hq hyes hL bad
        go_wp2_with fail
        refine region_calm (fun x => ∃ y : HeldG wc Lg Rr, x = y.x) (by kernel_rfl) (by kernel_rfl) ⟨⟨wc.drew, hS⟩, rfl⟩ ?_
        clear hS
        repeat (go_big_quiet_step (first
          | (go_at_call 121; refine (least_g Rr _).mono ?_; rintro e wf ⟨rfl, bf⟩; exact ⟨rfl, HeldG.on _ bf, rfl⟩)))
        refine wpQuiet_nil ?_
        rintro _ ⟨y, rfl⟩
        have fy := hide (fin.out y.x y.h.2)
        go_wp2
        go_ret
        exact ⟨rfl, fy.out.1, fy.out.2⟩
    · obtain ⟨rfl, rfl⟩ := bad.out (fun h => h1 h.1)
      have h4' : (E1 == 0) = false := by simpa using h1
      have n1' : (E1 != 0) = true := by simpa using h1
      have n2' : decide (E1 = 0) = false := by simpa using h1
      have n3' : (!decide (E1 = 0)) = true := by simpa using h1
      clear hq hyes hL bad
      go_wp2_with fail
      refine region_calm (fun x => ∃ y : HeldG wc Lg Rr, x = y.x) (by kernel_rfl) (by kernel_rfl) ⟨⟨wc.drew, hS⟩, rfl⟩ ?_
      clear hS
      repeat (go_big_quiet_step (first
        | (go_at_call 121; refine (least_g Rr _).mono ?_; rintro e wf ⟨rfl, bf⟩; exact ⟨rfl, HeldG.on _ bf, rfl⟩)))
      refine wpQuiet_nil ?_
      rintro _ ⟨y, rfl⟩
      have fy := hide (fin.out y.x y.h.2)
      go_wp2
      go_ret
      exact ⟨rfl, fy.out.1, fy.out.2⟩

end Go.Proofs.YthjcijlabpinkaaGreatDoor
