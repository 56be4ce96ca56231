/- Layer 12: the contract of Feed, the document's. -/
import Derived.Test.YtdapjpbdplhgbaaGreatQBuOps
import Derived.RegionTactic
import Derived.Deep.RegionHeld3
import Derived.Deep.CutRange
namespace Go.Proofs.YtdapjpbdplhgbaaGreat
open Go.RowKit
set_option linter.unusedVariables false
set_option maxRecDepth 100000
set_option linter.unusedSimpArgs false

theorem rfeed_none {w : World} {b : Nat} (x k n : Int) (h0 : ¬ k = 0) (h1 : ¬ k = 1) :
    Calls Tryz.prog 37 #[.pointer (some ⟨b, 0, none⟩), .agg #[.int .i64 x, .int .i64 k, .int .u32 n]] w fun e w' => e = .returned (.int .i64 120) ∧ Below w.heap.size w w' := by
  have e0 : (k == 0) = false := by simpa using h0
  have e1 : (k == 1) = false := by simpa using h1
  clear h0 h1
  go_enter Tryz.func37, Tryz.ntmps37
  go_wp2
  go_ret
  exact ⟨rfl, grow _ _⟩

set_option maxHeartbeats 2000000 in
set_option maxRecDepth 100000 in
theorem rfeed_stir {w : World} {b p gb gd n : Nat} {v : Dv} {B : Nat → Nat} {D : Nat → Bool} (hB : RBus w b p gb gd n v B D) (x m : Int) (m0 : 0 ≤ m) (m1 : m < 4294967296) (hQ : Wv { v with g := stirG v.g m }) :
    Calls Tryz.prog 37 #[.pointer (some ⟨b, 0, none⟩), .agg #[.int .i64 x, .int .i64 1, .int .u32 m]] w fun e w' => e = .returned (.int .i64 0) ∧ RBus w' b p gb gd n { v with g := stirG v.g m } B D ∧ Kept [b] w w' := by
  obtain ⟨t1, t2, t3, t4, t5, t6, t7, t8, t9⟩ := rowRules
  obtain ⟨y1, y2⟩ := rowSets
  obtain ⟨-, -, -, z4, -, -, -, -, z9, -⟩ := sizeRules
  obtain ⟨-, -, -, c4, -, -, -, -, o4, -, -, -, -, n4, -⟩ := cellSizes
  obtain ⟨f1, f2, f3, f4, p1, p2, p3, p4, s1, s2, s3, s4, -, -, -, -, -, -, -, -, -, -, -⟩ := mParts
  have cf := hide (rstir_g v.g m ⟨m0, by omega⟩)
  generalize stirG v.g m = Q at *
  have B1 := hide (hB.on (grow w (.cells #[.int .i64 x, .int .i64 1, .int .u32 m] 32)).drew)
  obtain ⟨r1, r2, r3⟩ := And.intro hB.row (And.intro hB.at' hB.lt)
  have r4 : ¬ b = w.heap.size := by omega
  clear hB
  go_enter Tryz.func37, Tryz.ntmps37
  go_wp2_with fail
  go_region_with (first
    | (go_at_call 78; refine (cf.out _).mono ?_; rintro e w1 ⟨rfl, b1⟩; have B2 := B1.out.on b1; obtain ⟨i1, i2⟩ := And.intro B2.row B2.at'))
  all_goals
    go_wp2
    go_ret
    exact ⟨rfl, B2.set _ hQ, (Kept.of (onto (grow w _).drew (Nat.le_refl _) b1)).trans (Kept.set _ _ _ (by simp))⟩

/-- The document's bus, and an event's number beside it. -/
structure FS (b p gb gd n : Nat) (v : Dv) (B : Nat → Nat) (D : Nat → Bool) (Le : Nat) (m : Int) (X0 x : World) : Prop where
  bus : RBus x b p gb gd n v B D
  ev : x.cell? ⟨Le, 2, none⟩ = some (.int .u32 m)
  be : Below X0.heap.size X0 x

theorem FS.on {b p gb gd n : Nat} {v : Dv} {B : Nat → Nat} {D : Nat → Bool} {Le : Nat} {m : Int} {X0 x y : World} (h : FS b p gb gd n v B D Le m X0 x) (hb : Below x.heap.size x y) : FS b p gb gd n v B D Le m X0 y :=
  ⟨h.bus.on hb, (hb.cell (p := ⟨Le, 2, none⟩) (World.block_lt_of_cell? _ _ h.ev)).trans h.ev, onto h.be (Nat.le_refl _) hb⟩

theorem FS.load {b p gb gd n : Nat} {v : Dv} {B : Nat → Nat} {D : Nat → Bool} {Le : Nat} {m : Int} {X0 x : World} (h : FS b p gb gd n v B D Le m X0 x) : (loadCellsFrom ⟨b, 4, none⟩ 0 Ua.N3 #[]).run Tryz.prog x = .ok (Ua.cellsU v.u) x :=
  Box.loads (c := cellsM v p) ⟨h.bus.row, h.bus.at', h.bus.lt⟩ 4 _ rfl rfl

theorem FS.ne {b p gb gd n : Nat} {v : Dv} {B : Nat → Nat} {D : Nat → Bool} {Le : Nat} {m : Int} {X0 x : World} (h : FS b p gb gd n v B D Le m X0 x) (L : Nat) (hL : x.heap.size ≤ L) : b ≠ L ∧ p ≠ L ∧ gb ≠ L ∧ gd ≠ L ∧ Le ≠ L := by
  have h1 := h.bus.lt
  have h2 := h.bus.m.zp
  have h3 := h.bus.m.zb
  have h4 := h.bus.m.zd
  have h5 : Le < x.heap.size := World.block_lt_of_cell? _ _ h.ev
  refine ⟨?_, ?_, ?_, ?_, ?_⟩ <;> omega

theorem FS.set {b p gb gd n : Nat} {v : Dv} {B : Nat → Nat} {D : Nat → Bool} {Le : Nat} {m : Int} {X0 x : World} (h : FS b p gb gd n v B D Le m X0 x) (L : Nat) (c : Array Value) (hn : b ≠ L ∧ p ≠ L ∧ gb ≠ L ∧ gd ≠ L ∧ Le ≠ L) (hL : X0.heap.size ≤ L) : FS b p gb gd n v B D Le m X0 (x.setRow L c) :=
  ⟨h.bus.keep (Kept.set (l := [L]) x L c (by simp)) (by simpa using hn.1) (by simpa using hn.2.1) (by simpa using hn.2.2.1) (by simpa using hn.2.2.2.1),
    (World.cell?_of_block (a := ⟨Le, 2, none⟩) (setRow_other x L Le c hn.2.2.2.2)).trans h.ev, below_setRow h.be hL _⟩

set_option maxHeartbeats 2000000 in
set_option maxRecDepth 100000 in
theorem rfeed_byte {w : World} {b p gb gd n : Nat} {v : Dv} {B : Nat → Nat} {D : Nat → Bool} (hB : RBus w b p gb gd n v B D) (x m : Int) (m0 : 0 ≤ m) (m1 : m < 4294967296) (hQ : Wv { v with u := Ua.feedV v.u (m % 256) }) :
    Calls Tryz.prog 37 #[.pointer (some ⟨b, 0, none⟩), .agg #[.int .i64 x, .int .i64 0, .int .u32 m]] w fun e w' => e = .returned (.int .i64 0) ∧ RBus w' b p gb gd n { v with u := Ua.feedV v.u (m % 256) } B D ∧ Kept [b] w w' := by
  obtain ⟨t1, t2, t3, t4, t5, t6, t7, t8, t9⟩ := rowRules
  obtain ⟨y1, y2⟩ := rowSets
  obtain ⟨-, z2, -, -, -, -, z7, -, -, -⟩ := sizeRules
  obtain ⟨-, c2, -, -, -, -, o2, -, -, -, -, n2, -, -, -⟩ := cellSizes
  obtain ⟨-, -, -, a4, a5, a6, -, -, -, -, -, -, -, -, -⟩ := boxRules
  obtain ⟨f1, f2, f3, f4, p1, p2, p3, p4, s1, s2, s3, s4, -, -, -, -, -, -, -, -, -, -, -⟩ := mParts
  have cf := hide (Ua.rfeed_any v.u (m % 256) (by omega) (by omega) (by have := hB.wv.u.i; omega))
  generalize Ua.feedV v.u (m % 256) = Q at *
  have i64m : IntKind.i64.wrap m = m := by simp [IntKind.wrap, IntKind.bits, IntKind.signed]; omega
  have u8m : IntKind.u8.wrap (m.tmod 256) = m % 256 := by rw [Int.tmod_eq_emod_of_nonneg m0]; simp [IntKind.wrap, IntKind.bits, IntKind.signed]
  replace hB := hide hB
  obtain ⟨r1, r2, r3⟩ := And.intro hB.out.row (And.intro hB.out.at' hB.out.lt)
  have r4 : ¬ b = w.heap.size := by omega
  have r5 : ¬ b = w.heap.size + 1 := by omega
  go_enter Tryz.func37, Tryz.ntmps37
  go_wp2_with fail
  have F0 : Hid (FS b p gb gd n v B D w.heap.size m (w.alloc (.cells #[.int .i64 x, .int .i64 0, .int .u32 m] 32)) (w.alloc (.cells #[.int .i64 x, .int .i64 0, .int .u32 m] 32))) := hide
    ⟨hB.out.on (grow _ _), by rw [World.cell?_alloc_new]; rfl, Below.refl _ _⟩
  have BX := hide (grow w (.cells #[.int .i64 x, .int .i64 0, .int .u32 m] 32))
  generalize w.alloc (.cells #[.int .i64 x, .int .i64 0, .int .u32 m] 32) = X0 at *
  clear r1 r2 r3 r4 r5 hB
  generalize hLe : w.heap.size = Le at F0 ⊢
  clear hLe
  go_cut [5, 6] from 11 (fun s5 _ x => ∃ LB, s5 = .pointer (some ⟨LB, 0, none⟩) ∧ Hid (Box x LB (Ua.cellsU Q) ∧ b ≠ LB ∧ FS b p gb gd n v B D Le m X0 x))
  case first =>
    clear t1 t2 t3 t4 t5 t6 t7 t8 t9 y1 y2
    refine wp_region_held_drew (S := fun x => FS b p gb gd n v B D Le m X0 x) (by kernel_rfl) (F0.out.on (Below.refl _ _).drew) (fun hHeld => ?_)
    generalize X0.drew = xd at *
    refine wpAnyH_take (i := 0) (oi := { dst := some 11, op := Op.move (Operand.tmp 0), type := 27, pos := "ref.go:147", after := #[], guard := none }) (v := ?_) rfl (by kernel_rfl) (by kernel_rfl) (by kernel_rfl) (fun _ _ _ h => h) (Or.inl ⟨by rfl, ?_⟩) (by assumption) ?_
    rotate_left
    · intro y hSw
      obtain ⟨q0, q1⟩ := And.intro hSw.load hSw.ev
      go_simp
      try with_reducible rfl
    try simp only [Act.put, List.setIfInBounds_toArray, List.set_cons_zero, List.set_cons_succ]
    refine wpAnyH_take (i := 1) (oi := { dst := some 12, op := Op.nilCheck (Operand.tmp 11), type := 0, pos := "ref.go:147", after := #[{ on := 0, ground := Ground.data }], guard := none }) (v := ?_) rfl (by kernel_rfl) (by kernel_rfl) (by kernel_rfl) (fun _ _ _ h => h) (Or.inl ⟨by rfl, ?_⟩) (by assumption) ?_
    rotate_left
    · intro y hSw
      obtain ⟨q0, q1⟩ := And.intro hSw.load hSw.ev
      go_simp
      try with_reducible rfl
    try simp only [Act.put, List.setIfInBounds_toArray, List.set_cons_zero, List.set_cons_succ]
    refine wpAnyH_take (i := 2) (oi := { dst := some 13, op := Op.fieldAddr 52 (Operand.tmp 12) 2, type := 0, pos := "ref.go:147", after := #[{ on := 1, ground := Ground.data }], guard := none }) (v := ?_) rfl (by kernel_rfl) (by kernel_rfl) (by kernel_rfl) (fun _ _ _ h => h) (Or.inl ⟨by rfl, ?_⟩) (by assumption) ?_
    rotate_left
    · intro y hSw
      obtain ⟨q0, q1⟩ := And.intro hSw.load hSw.ev
      go_simp
      try with_reducible rfl
    try simp only [Act.put, List.setIfInBounds_toArray, List.set_cons_zero, List.set_cons_succ]
    refine wpAnyH_take (i := 3) (oi := { dst := some 14, op := Op.load 48 (Operand.tmp 13), type := 48, pos := "ref.go:147", after := #[{ on := 2, ground := Ground.data }], guard := none }) (v := ?_) rfl (by kernel_rfl) (by kernel_rfl) (by kernel_rfl) (fun _ _ _ h => h) (Or.inl ⟨by rfl, ?_⟩) (by assumption) ?_
    rotate_left
    · intro y hSw
      obtain ⟨q0, q1⟩ := And.intro hSw.load hSw.ev
      go_simp
      try with_reducible rfl
    try simp only [Act.put, List.setIfInBounds_toArray, List.set_cons_zero, List.set_cons_succ]
    refine wpAnyH_take (i := 4) (oi := { dst := some 15, op := Op.fieldAddr 32 (Operand.tmp 3) 2, type := 0, pos := "ref.go:147", after := #[], guard := none }) (v := ?_) rfl (by kernel_rfl) (by kernel_rfl) (by kernel_rfl) (fun _ _ _ h => h) (Or.inl ⟨by rfl, ?_⟩) (by assumption) ?_
    rotate_left
    · intro y hSw
      obtain ⟨q0, q1⟩ := And.intro hSw.load hSw.ev
      go_simp
      try with_reducible rfl
    try simp only [Act.put, List.setIfInBounds_toArray, List.set_cons_zero, List.set_cons_succ]
    refine wpAnyH_take (i := 5) (oi := { dst := some 16, op := Op.load 30 (Operand.tmp 15), type := 30, pos := "ref.go:147", after := #[{ on := 4, ground := Ground.data }], guard := none }) (v := ?_) rfl (by kernel_rfl) (by kernel_rfl) (by kernel_rfl) (fun _ _ _ h => h) (Or.inl ⟨by rfl, ?_⟩) (by assumption) ?_
    rotate_left
    · intro y hSw
      obtain ⟨q0, q1⟩ := And.intro hSw.load hSw.ev
      go_simp
      try with_reducible rfl
    try simp only [Act.put, List.setIfInBounds_toArray, List.set_cons_zero, List.set_cons_succ]
    refine wpAnyH_take (i := 6) (oi := { dst := some 17, op := Op.convert 30 3 (Operand.tmp 16), type := 3, pos := "ref.go:147", after := #[{ on := 5, ground := Ground.data }], guard := none }) (v := ?_) rfl (by kernel_rfl) (by kernel_rfl) (by kernel_rfl) (fun _ _ _ h => h) (Or.inl ⟨by rfl, ?_⟩) (by assumption) ?_
    rotate_left
    · intro y hSw
      obtain ⟨q0, q1⟩ := And.intro hSw.load hSw.ev
      go_simp
      try with_reducible rfl
    try simp only [Act.put, List.setIfInBounds_toArray, List.set_cons_zero, List.set_cons_succ]
    refine wpAnyH_take (i := 7) (oi := { dst := some 18, op := Op.binOp BinOp.rem 3 (Operand.tmp 17) (Operand.const (Value.int IntKind.i64 256)) 3, type := 3, pos := "ref.go:147", after := #[{ on := 6, ground := Ground.data }], guard := none }) (v := ?_) rfl (by kernel_rfl) (by kernel_rfl) (by kernel_rfl) (fun _ _ _ h => h) (Or.inl ⟨by rfl, ?_⟩) (by assumption) ?_
    rotate_left
    · intro y hSw
      obtain ⟨q0, q1⟩ := And.intro hSw.load hSw.ev
      go_simp
      try with_reducible rfl
    try simp only [Act.put, List.setIfInBounds_toArray, List.set_cons_zero, List.set_cons_succ]
    refine wpAnyH_take (i := 8) (oi := { dst := some 19, op := Op.convert 3 5 (Operand.tmp 18), type := 5, pos := "ref.go:147", after := #[{ on := 7, ground := Ground.data }], guard := none }) (v := ?_) rfl (by kernel_rfl) (by kernel_rfl) (by kernel_rfl) (fun _ _ _ h => h) (Or.inl ⟨by rfl, ?_⟩) (by assumption) ?_
    rotate_left
    · intro y hSw
      obtain ⟨q0, q1⟩ := And.intro hSw.load hSw.ev
      go_simp
      try with_reducible rfl
    try simp only [Act.put, List.setIfInBounds_toArray, List.set_cons_zero, List.set_cons_succ]
    refine wpAnyH_ready (rs := [9, 13]) (by kernel_rfl) (by simp) ?_
    refine AllReadyH.cons (o := { dst := some 20, op := Op.call { callee := Callee.value (Operand.func 84), args := #[Operand.tmp 14, Operand.tmp 19], argTypes := #[48, 5] }, type := 75, pos := "ref.go:147", after := #[{ on := 3, ground := Ground.data }, { on := 8, ground := Ground.data }], guard := none }) rfl (fun K hK => ?_) ?_
    · go_simp
      refine (cf.out _).mono ?_
      rintro e x1 ⟨rfl, hn1⟩
      go_wp2_with fail
      refine hK.out _ _ (hHeld.on hn1) (fun hHeld => ?_)
      clear hK K
      try simp only [Act.put, List.setIfInBounds_toArray, List.set_cons_zero, List.set_cons_succ]
      clear hn1
      refine wpAnyH_take (i := 10) (oi := { dst := some 10, op := Op.move (Operand.tmp 20), type := 75, pos := "ref.go:147", after := #[{ on := 9, ground := Ground.data }], guard := none }) (v := ?_) rfl (by kernel_rfl) (by kernel_rfl) (by kernel_rfl) (fun _ _ _ h => h) (Or.inl ⟨by rfl, ?_⟩) (by assumption) ?_
      rotate_left
      · intro y hSw
        obtain ⟨q0, q1⟩ := And.intro hSw.load hSw.ev
        go_simp
        try with_reducible rfl
      try simp only [Act.put, List.setIfInBounds_toArray, List.set_cons_zero, List.set_cons_succ]
      refine wpAnyH_take (i := 11) (oi := { dst := some 21, op := Op.extract (Operand.tmp 10) 0, type := 48, pos := "ref.go:147", after := #[{ on := 10, ground := Ground.data }], guard := none }) (v := ?_) rfl (by kernel_rfl) (by kernel_rfl) (by kernel_rfl) (fun _ _ _ h => h) (Or.inl ⟨by rfl, ?_⟩) (by assumption) ?_
      rotate_left
      · intro y hSw
        obtain ⟨q0, q1⟩ := And.intro hSw.load hSw.ev
        go_simp
        try with_reducible rfl
      try simp only [Act.put, List.setIfInBounds_toArray, List.set_cons_zero, List.set_cons_succ]
      refine wpAnyH_take (i := 12) (oi := { dst := some 22, op := Op.extract (Operand.tmp 10) 1, type := 4, pos := "ref.go:147", after := #[{ on := 10, ground := Ground.data }, { on := 14, ground := Ground.gcOnly Departure.lateStores }], guard := none }) (v := ?_) rfl (by kernel_rfl) (by kernel_rfl) (by kernel_rfl) (fun _ _ _ h => h) (Or.inl ⟨by rfl, ?_⟩) (by assumption) ?_
      rotate_left
      · intro y hSw
        obtain ⟨q0, q1⟩ := And.intro hSw.load hSw.ev
        go_simp
        try with_reducible rfl
      try simp only [Act.put, List.setIfInBounds_toArray, List.set_cons_zero, List.set_cons_succ]
      refine wpAnyH_ready (rs := [13]) (by kernel_rfl) (by simp) ?_
      refine AllReadyH.cons (o := { dst := some 5, op := Op.alloc 48, type := 0, pos := "ref.go:147", after := #[], guard := none }) rfl (fun K hK => ?_) AllReadyH.nil
      have gA := grow x1 (.cells (Ua.cellsU Ua.U0) 48)
      have RB := Box.new x1 (Ua.cellsU Ua.U0) 48
      have hLB : X0.heap.size ≤ x1.heap.size := hHeld.be.size
      have hn := hHeld.ne x1.heap.size (Nat.le_refl _)
      go_simp
      refine hK.out _ _ (hHeld.on gA) (fun hHeld => ?_)
      clear hK K
      try simp only [Act.put, List.setIfInBounds_toArray, List.set_cons_zero, List.set_cons_succ]
      clear gA
      generalize x1.alloc (.cells (Ua.cellsU Ua.U0) 48) = x2 at *
      generalize x1.heap.size = LB at *
      refine wpAnyH_ready (rs := [14]) (by kernel_rfl) (by simp) ?_
      refine AllReadyH.cons (o := { dst := none, op := Op.store 48 (Operand.tmp 5) (Operand.tmp 21), type := 0, pos := "ref.go:147", after := #[{ on := 13, ground := Ground.data }, { on := 11, ground := Ground.data }, { on := 9, ground := Ground.chain }, { on := 0, ground := Ground.phase }, { on := 1, ground := Ground.phase }, { on := 2, ground := Ground.phase }, { on := 3, ground := Ground.phase }, { on := 4, ground := Ground.phase }, { on := 5, ground := Ground.phase }, { on := 6, ground := Ground.phase }, { on := 7, ground := Ground.phase }, { on := 8, ground := Ground.phase }, { on := 9, ground := Ground.phase }, { on := 10, ground := Ground.phase }, { on := 11, ground := Ground.phase }, { on := 12, ground := Ground.textOnly Departure.lateStores }, { on := 13, ground := Ground.phase }], guard := none }) rfl (fun K hK => ?_) AllReadyH.nil
      have hst := store_part x2 LB 0 (Ua.cellsU Q) RB.1 (by rw [RB.2.1]; rfl) rfl
      rw [RB.2.1, a6] at hst
      have RC := RB.set (Ua.cellsU Q)
      go_simp
      refine hK.out _ _ (hHeld.set LB _ hn hLB) (fun hHeld => ?_)
      clear hK K
      try simp only [Act.put, List.setIfInBounds_toArray, List.set_cons_zero, List.set_cons_succ]
      clear hst RB
      generalize x2.setRow LB (Ua.cellsU Q) = x3 at *
      refine wpAnyH_take (i := 15) (oi := { dst := some 6, op := Op.assign (Operand.tmp 22), type := 4, pos := "ref.go:147", after := #[{ on := 12, ground := Ground.data }, { on := 14, ground := Ground.chain }, { on := 0, ground := Ground.phase }, { on := 1, ground := Ground.phase }, { on := 2, ground := Ground.phase }, { on := 3, ground := Ground.phase }, { on := 4, ground := Ground.phase }, { on := 5, ground := Ground.phase }, { on := 6, ground := Ground.phase }, { on := 7, ground := Ground.phase }, { on := 8, ground := Ground.phase }, { on := 9, ground := Ground.phase }, { on := 10, ground := Ground.phase }, { on := 11, ground := Ground.phase }, { on := 12, ground := Ground.phase }, { on := 13, ground := Ground.phase }, { on := 14, ground := Ground.phase }], guard := none }) (v := ?_) rfl (by kernel_rfl) (by kernel_rfl) (by kernel_rfl) (fun _ _ _ h => h) (Or.inl ⟨by rfl, ?_⟩) (by assumption) ?_
      rotate_left
      · intro y hSw
        obtain ⟨q0, q1⟩ := And.intro hSw.load hSw.ev
        go_simp
        try with_reducible rfl
      try simp only [Act.put, List.setIfInBounds_toArray, List.set_cons_zero, List.set_cons_succ]
      refine wpAnyH_done (by kernel_rfl) ?_ _
      go_wp2_with fail
      go_meet
      case rel => exact ⟨LB, rfl, hide ⟨RC, hn.1, hHeld⟩⟩
    refine AllReadyH.cons (o := { dst := some 5, op := Op.alloc 48, type := 0, pos := "ref.go:147", after := #[], guard := none }) rfl (fun K hK => ?_) AllReadyH.nil
    have gA := grow xd (.cells (Ua.cellsU Ua.U0) 48)
    have RB := Box.new xd (Ua.cellsU Ua.U0) 48
    have hLB : X0.heap.size ≤ xd.heap.size := hHeld.be.size
    have hn := hHeld.ne xd.heap.size (Nat.le_refl _)
    go_simp
    refine hK.out _ _ (hHeld.on gA) (fun hHeld => ?_)
    clear hK K
    try simp only [Act.put, List.setIfInBounds_toArray, List.set_cons_zero, List.set_cons_succ]
    clear gA
    generalize xd.alloc (.cells (Ua.cellsU Ua.U0) 48) = x1 at *
    generalize xd.heap.size = LB at *
    refine wpAnyH_ready (rs := [9]) (by kernel_rfl) (by simp) ?_
    refine AllReadyH.cons (o := { dst := some 20, op := Op.call { callee := Callee.value (Operand.func 84), args := #[Operand.tmp 14, Operand.tmp 19], argTypes := #[48, 5] }, type := 75, pos := "ref.go:147", after := #[{ on := 3, ground := Ground.data }, { on := 8, ground := Ground.data }], guard := none }) rfl (fun K hK => ?_) AllReadyH.nil
    go_simp
    refine (cf.out _).mono ?_
    rintro e x2 ⟨rfl, hn1⟩
    replace RB := RB.on hn1
    go_wp2_with fail
    refine hK.out _ _ (hHeld.on hn1) (fun hHeld => ?_)
    clear hK K
    try simp only [Act.put, List.setIfInBounds_toArray, List.set_cons_zero, List.set_cons_succ]
    clear hn1
    refine wpAnyH_take (i := 10) (oi := { dst := some 10, op := Op.move (Operand.tmp 20), type := 75, pos := "ref.go:147", after := #[{ on := 9, ground := Ground.data }], guard := none }) (v := ?_) rfl (by kernel_rfl) (by kernel_rfl) (by kernel_rfl) (fun _ _ _ h => h) (Or.inl ⟨by rfl, ?_⟩) (by assumption) ?_
    rotate_left
    · intro y hSw
      obtain ⟨q0, q1⟩ := And.intro hSw.load hSw.ev
      go_simp
      try with_reducible rfl
    try simp only [Act.put, List.setIfInBounds_toArray, List.set_cons_zero, List.set_cons_succ]
    refine wpAnyH_take (i := 11) (oi := { dst := some 21, op := Op.extract (Operand.tmp 10) 0, type := 48, pos := "ref.go:147", after := #[{ on := 10, ground := Ground.data }], guard := none }) (v := ?_) rfl (by kernel_rfl) (by kernel_rfl) (by kernel_rfl) (fun _ _ _ h => h) (Or.inl ⟨by rfl, ?_⟩) (by assumption) ?_
    rotate_left
    · intro y hSw
      obtain ⟨q0, q1⟩ := And.intro hSw.load hSw.ev
      go_simp
      try with_reducible rfl
    try simp only [Act.put, List.setIfInBounds_toArray, List.set_cons_zero, List.set_cons_succ]
    refine wpAnyH_take (i := 12) (oi := { dst := some 22, op := Op.extract (Operand.tmp 10) 1, type := 4, pos := "ref.go:147", after := #[{ on := 10, ground := Ground.data }, { on := 14, ground := Ground.gcOnly Departure.lateStores }], guard := none }) (v := ?_) rfl (by kernel_rfl) (by kernel_rfl) (by kernel_rfl) (fun _ _ _ h => h) (Or.inl ⟨by rfl, ?_⟩) (by assumption) ?_
    rotate_left
    · intro y hSw
      obtain ⟨q0, q1⟩ := And.intro hSw.load hSw.ev
      go_simp
      try with_reducible rfl
    try simp only [Act.put, List.setIfInBounds_toArray, List.set_cons_zero, List.set_cons_succ]
    refine wpAnyH_ready (rs := [14]) (by kernel_rfl) (by simp) ?_
    refine AllReadyH.cons (o := { dst := none, op := Op.store 48 (Operand.tmp 5) (Operand.tmp 21), type := 0, pos := "ref.go:147", after := #[{ on := 13, ground := Ground.data }, { on := 11, ground := Ground.data }, { on := 9, ground := Ground.chain }, { on := 0, ground := Ground.phase }, { on := 1, ground := Ground.phase }, { on := 2, ground := Ground.phase }, { on := 3, ground := Ground.phase }, { on := 4, ground := Ground.phase }, { on := 5, ground := Ground.phase }, { on := 6, ground := Ground.phase }, { on := 7, ground := Ground.phase }, { on := 8, ground := Ground.phase }, { on := 9, ground := Ground.phase }, { on := 10, ground := Ground.phase }, { on := 11, ground := Ground.phase }, { on := 12, ground := Ground.textOnly Departure.lateStores }, { on := 13, ground := Ground.phase }], guard := none }) rfl (fun K hK => ?_) AllReadyH.nil
    have hst := store_part x2 LB 0 (Ua.cellsU Q) RB.1 (by rw [RB.2.1]; rfl) rfl
    rw [RB.2.1, a6] at hst
    have RC := RB.set (Ua.cellsU Q)
    go_simp
    refine hK.out _ _ (hHeld.set LB _ hn hLB) (fun hHeld => ?_)
    clear hK K
    try simp only [Act.put, List.setIfInBounds_toArray, List.set_cons_zero, List.set_cons_succ]
    clear hst RB
    generalize x2.setRow LB (Ua.cellsU Q) = x3 at *
    refine wpAnyH_take (i := 15) (oi := { dst := some 6, op := Op.assign (Operand.tmp 22), type := 4, pos := "ref.go:147", after := #[{ on := 12, ground := Ground.data }, { on := 14, ground := Ground.chain }, { on := 0, ground := Ground.phase }, { on := 1, ground := Ground.phase }, { on := 2, ground := Ground.phase }, { on := 3, ground := Ground.phase }, { on := 4, ground := Ground.phase }, { on := 5, ground := Ground.phase }, { on := 6, ground := Ground.phase }, { on := 7, ground := Ground.phase }, { on := 8, ground := Ground.phase }, { on := 9, ground := Ground.phase }, { on := 10, ground := Ground.phase }, { on := 11, ground := Ground.phase }, { on := 12, ground := Ground.phase }, { on := 13, ground := Ground.phase }, { on := 14, ground := Ground.phase }], guard := none }) (v := ?_) rfl (by kernel_rfl) (by kernel_rfl) (by kernel_rfl) (fun _ _ _ h => h) (Or.inl ⟨by rfl, ?_⟩) (by assumption) ?_
    rotate_left
    · intro y hSw
      obtain ⟨q0, q1⟩ := And.intro hSw.load hSw.ev
      go_simp
      try with_reducible rfl
    try simp only [Act.put, List.setIfInBounds_toArray, List.set_cons_zero, List.set_cons_succ]
    refine wpAnyH_done (by kernel_rfl) ?_ _
    go_wp2_with fail
    go_meet
    case rel => exact ⟨LB, rfl, hide ⟨RC, hn.1, hHeld⟩⟩

  case rest =>
    obtain ⟨LB, rfl, HC⟩ := hcut
    obtain ⟨r1, r2, r3⟩ := And.intro HC.out.2.2.bus.row (And.intro HC.out.2.2.bus.at' HC.out.1.1)
    have r4 := HC.out.1.2.1
    have B2 := hide (HC.out.2.2.bus.set _ hQ)
    have K2 := hide (((Kept.of (l := [b]) BX.out).trans (Kept.of HC.out.2.2.be)).trans (Kept.set wc b (cellsM { v with u := Q } p) (by simp)))
    clear HC F0 BX cf
    go_wp2
    go_ret
    exact ⟨rfl, B2.out, K2.out⟩

theorem rfeed_is {w : World} {b p gb gd n : Nat} {v : Dv} {B : Nat → Nat} {D : Nat → Bool} (hB : RBus w b p gb gd n v B D) (x k m : Int) (m0 : 0 ≤ m) (m1 : m < 4294967296) :
    Calls Tryz.prog 37 #[.pointer (some ⟨b, 0, none⟩), .agg #[.int .i64 x, .int .i64 k, .int .u32 m]] w fun e w' => e = .returned (.int .i64 (fdE k)) ∧ RBus w' b p gb gd n (fdV v k m) B D ∧ Kept [b] w w' := by
  have hv := hB.wv
  unfold fdV fdE
  by_cases h0 : k = 0
  · subst h0
    rw [if_pos rfl, if_pos rfl]
    exact rfeed_byte hB x m m0 m1 (hv.setU (feed_u hv.u _))
  · rw [if_neg h0, if_neg h0]
    by_cases h1 : k = 1
    · subst h1
      rw [if_pos rfl, if_pos rfl]
      exact rfeed_stir hB x m m0 m1 (hv.setG (stirG_w _ _))
    · rw [if_neg h1, if_neg h1]
      refine (rfeed_none x k m h0 h1).mono ?_
      rintro e w1 ⟨rfl, b1⟩
      exact ⟨rfl, hB.on b1, Kept.of b1⟩

end Go.Proofs.YtdapjpbdplhgbaaGreat
