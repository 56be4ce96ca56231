/- Layer 13: contracts of the program's loads and stores. -/
import Derived.Test.YtmegghgjllbamaaGreatDoorQCuThr
import Derived.RegionTactic
import Derived.Deep.RegionHeld3
import Derived.Deep.CutRange
namespace Go.Proofs.YtmegghgjllbamaaGreatDoor
open Go.RowKit
set_option linter.unusedVariables false
set_option maxRecDepth 100000
set_option linter.unusedSimpArgs false

/-- A processor's state in block cb, a bus in block bb. -/
structure Mach (w : World) (cb bb p g n cp : Nat) (m : Mc) : Prop where
  bx : Box w cb (cellsC m.c)
  bus : Bus w bb p g n cp m.v m.B m.D
  wc : Wc m.c
  tb : De.Tabs w
  nb : cb ≠ bb
  np : cb ≠ p
  ng : cb ≠ g
  c2 : 2 ≤ cb
  b2 : 2 ≤ bb
  g2 : 2 ≤ g

theorem Mach.on {w x : World} {cb bb p g n cp : Nat} {m : Mc} (h : Mach w cb bb p g n cp m) (hb : Below w.heap.size w x) : Mach x cb bb p g n cp m :=
  ⟨h.bx.on hb, h.bus.on hb, h.wc, h.tb.on hb, h.nb, h.np, h.ng, h.c2, h.b2, h.g2⟩

theorem Mach.drew {w : World} {cb bb p g n cp : Nat} {m : Mc} (h : Mach w cb bb p g n cp m) : Mach w.drew cb bb p g n cp m := h.on (Below.refl _ _).drew

/-- The state is another one. -/
theorem Mach.state {w x : World} {cb bb p g n cp : Nat} {m : Mc} (h : Mach w cb bb p g n cp m) {c : Cs} (hx : Box x cb (cellsC c)) (k : Kept [cb] w x) (hc : Wc c) : Mach x cb bb p g n cp { m with c := c } :=
  ⟨hx, h.bus.keep k (by simpa using h.nb.symm) (by simpa using h.np.symm) (by simpa using h.ng.symm), hc, Tabs.kept h.tb k (by simpa using h.c2), h.nb, h.np, h.ng, h.c2, h.b2, h.g2⟩

/-- The bus is another one. -/
theorem Mach.turn {w x : World} {cb bb p g n cp : Nat} {m : Mc} (h : Mach w cb bb p g n cp m) {v : Dv} {B : Nat → Nat} {D : Nat → Bool} (hx : Bus x bb p g n cp v B D) (k : Kept [bb, g] w x) : Mach x cb bb p g n cp ⟨m.c, v, B, D⟩ :=
  ⟨h.bx.kept k (by simp [h.nb, h.ng]), hx, h.wc, Tabs.kept h.tb k (by simp [h.b2, h.g2]), h.nb, h.np, h.ng, h.c2, h.b2, h.g2⟩

/-- Five, so spelt that no walk opens a row of them. -/
def NF : Nat := 5

theorem Wc.link {c : Cs} (h : Wc c) (y : Bool) : Wc { c with lk := y } := ⟨h.pc, h.nx, h.R, h.hi, h.lo, h.C, h.T⟩

/-- What is told of a fault that is put into the box of a result behind a store into the state. -/
theorem Box.last {x : World} {b r : Nat} {f : Ft} (h : Box x r (cellsF f)) (hb : r ≠ b) (q : Ft) (C : Array Value) :
    (storeCells ⟨r, 0, none⟩ (cellsF q).toList 0).run Tryz.prog (x.setRow b C) = .ok () ((x.setRow b C).setRow r (cellsF q)) ∧ (loadCellsFrom ⟨r, 0, none⟩ 0 NF #[]).run Tryz.prog ((x.setRow b C).setRow r (cellsF q)) = .ok (cellsF q) ((x.setRow b C).setRow r (cellsF q)) := by
  have hf := h.far b C hb
  refine ⟨?_, (hf.set (cellsF q)).loads 0 NF rfl rfl⟩
  have := store_part (x.setRow b C) r 0 (cellsF q) hf.1 (by rw [hf.2.1]; rfl) rfl
  rw [hf.2.1] at this
  exact this

/-- A store elsewhere. -/
theorem Mach.far {x : World} {cb bb p g n cp : Nat} {m : Mc} (h : Mach x cb bb p g n cp m) (k : Nat) (c : Array Value) (h1 : cb ≠ k) (h2 : bb ≠ k) (h3 : p ≠ k) (h4 : g ≠ k) (h5 : 2 ≤ k) : Mach (x.setRow k c) cb bb p g n cp m :=
  ⟨h.bx.far k c h1, h.bus.keep (Kept.set (l := [k]) x k c (by simp)) (by simpa using h2) (by simpa using h3) (by simpa using h4), h.wc, Tabs.kept h.tb (Kept.set (l := [k]) x k c (by simp)) (by simpa using h5), h.nb, h.np, h.ng, h.c2, h.b2, h.g2⟩

theorem Kept.late {l : List Nat} {w x : World} (h : Kept l w x) (k : Nat) (c : Array Value) (hk : w.heap.size ≤ k) : Kept l w (x.setRow k c) :=
  ⟨h.os, h.tape, h.output, by rw [setRow_size]; exact h.size, fun j hj hl => (setRow_other x k j c (by omega)).trans (h.block j hj hl)⟩

/-- A state that is stored, and the fault of a result. -/
theorem Mach.done {w x : World} {cb bb p g n cp : Nat} {m : Mc} (h : Mach x cb bb p g n cp m) (K : Kept [cb, bb, g] w x) (c : Cs) (hc : Wc c) (r : Nat) (f : Ft) (hr : w.heap.size ≤ r) (h1 : cb < w.heap.size) (h2 : bb < w.heap.size) (h3 : p < w.heap.size) (h4 : g < w.heap.size) (h5 : 2 ≤ w.heap.size) :
    Mach ((x.setRow cb (cellsC c)).setRow r (cellsF f)) cb bb p g n cp { m with c := c } ∧ Kept [cb, bb, g] w ((x.setRow cb (cellsC c)).setRow r (cellsF f)) :=
  ⟨(h.state (h.bx.set _) (Kept.set _ cb _ (by simp)) hc).far r _ (by omega) (by omega) (by omega) (by omega) (by omega), (K.trans (Kept.set _ cb _ (by simp))).late r _ hr⟩

theorem sizeOf_any (o : Int) (ho : o = 59 ∨ o = 60 ∨ o = 61 ∨ o = 62 ∨ o = 63 ∨ o = 67 ∨ o = 64 ∨ o = 65 ∨ o = 66 ∨ o = 68) (w : World) :
    Calls Tryz.prog 99 #[.int .i64 o] w fun r w' => r = .returned (.int .i64 (szV o)) ∧ w' = w := by
  rcases ho with rfl | rfl | rfl | rfl | rfl | rfl | rfl | rfl | rfl | rfl
  all_goals
    go_enter Tryz.func99, Tryz.ntmps99
    go_wp2
    go_ret
    exact ⟨rfl, rfl⟩

theorem szV_is (o : Int) : szV o = 1 ∨ szV o = 2 ∨ szV o = 4 := by
  unfold szV
  repeat' split
  all_goals simp

theorem adrV_w (c : Cs) (I : Ins) : Cp.W32 (adrV c I) := mod_w _

theorem sizeFt (w : World) : (sizeOf 75).run Tryz.prog w = .ok NF w := Tryz.sizeOf75 w
theorem zeroFt (w : World) : (zeroValue 75).run Tryz.prog w = .ok (.agg (cellsF F0)) w := Tryz.zeroValue75 w

/-- What walks over faults are told. -/
theorem ftRules : (∀ w : World, (sizeOf 75).run Tryz.prog w = .ok NF w) ∧ (∀ w : World, (zeroValue 75).run Tryz.prog w = .ok (.agg (cellsF F0)) w) ∧ (∀ f : Ft, (cellsF f).size = NF) ∧ (∀ f : Ft, ones (cellsF f) = true) ∧ ¬ NF = 0 ∧
    (∀ f q : Ft, placed (cellsF f) 0 (cellsF q) = cellsF q) ∧ (∀ f : Ft, fitsP (cellsF f) 0 NF = true) ∧ (∀ f : Ft, part (cellsF f) 0 NF = cellsF f) ∧ ¬ NF < 2 ∧ ¬ cellsF F0 = #[] :=
  ⟨sizeFt, zeroFt, fun _ => rfl, fun _ => rfl, by decide, fun _ _ => rfl, fun _ => rfl, fun _ => rfl, by decide, by simp [cellsF]⟩

theorem ftMore : (∀ (f : Ft) (x : Int), (cellsF f).setIfInBounds 0 (.int .i64 x) = cellsF { f with code := x }) ∧ (∀ (f : Ft) (x : Int), (cellsF f).toList.set 0 (.int .i64 x) = (cellsF { f with code := x }).toList) :=
  ⟨fun _ _ => rfl, fun _ _ => rfl⟩

set_option maxHeartbeats 1500000 in
set_option maxRecDepth 100000 in
theorem load_raw {w : World} {cb bb p g n cp : Nat} {m : Mc} (h : Mach w cb bb p g n cp m) (o : Int) (s t d a : Nat) (i : Int) (hs : s < 32) (ht : t < 32) (ho : o = 59 ∨ o = 60 ∨ o = 61 ∨ o = 62 ∨ o = 63 ∨ o = 67) (A : Int) (Z : Int) (P : Int) (F : Ft) (K : Bool)
    (hz : szV o = Z) (hA : IntKind.u32.wrap (m.c.R s + IntKind.u32.wrap i) = A)
    (cpl : ∀ x, Box x cb (cellsC m.c) → Calls Tryz.prog 51 #[.pointer (some ⟨cb, 0, none⟩), .int .u32 A, .int .i64 Z, .bool false] x fun r w' => r = .returned (.tuple #[.int .u32 P, .agg (cellsF F), .bool K]) ∧ Below x.heap.size x w')
    (hPw : Cp.W32 P) (X E : Int) (V : Dv) (hL : ldA n m.v m.B P Z = ⟨X, E, V⟩) (W : Int) (C1 : Cs) (hC1 : putC m.c t W = C1) (lk : Bool) (hlk : C1.lk = lk) (G J : Bool) (hG : (o = 59 ∧ G = true) ∨ ((o == 59) = false ∧ (o == 60) = G)) (h67 : (o == 67) = J) (hE : ∀ x, Calls Tryz.prog 101 #[.int .u32 X, .int .i64 (IntKind.i64.wrap (8 * Z)), .bool G] x fun r w' => r = .returned (.int .u32 W) ∧ w' = x) (hW : Cp.W32 W)
    (O : Out) (hO : (K = false ∧ O = bad m F) ∨ (K = true ∧ (E == 0) = false ∧ O = bad m (ftC 7)) ∨ (K = true ∧ E = 0 ∧ O = nop ⟨{ C1 with lk := lk || J }, V, m.B, m.D⟩)) :
    Calls Tryz.prog 61 #[.pointer (some ⟨cb, 0, none⟩), .pointer (some ⟨bb, 0, none⟩), .agg #[.int .i64 o, .int .i64 (s : Int), .int .i64 (t : Int), .int .i64 (d : Int), .int .i64 (a : Int), .int .i64 i]] w fun r w' =>
      r = .returned (.tuple #[.agg (cellsF O.f), .bool O.k]) ∧ Mach w' cb bb p g n cp O.m ∧ Kept [cb, bb, g] w w' := by
  obtain ⟨t1, t2, t3, t4, t5, t6, t7, t8, t9⟩ := rowRules
  obtain ⟨zf1, zf2, zf3, zf4, zf5, zf6, zf7, zf8, zf9, zf10⟩ := ftRules
  obtain ⟨zs1, zs2⟩ := ftMore
  obtain ⟨p0, p1, p2, p3, p4, p5, p6, p7, p8, p9⟩ := cParts
  have cz := hide (sizeOf_any o (by omega))
  rw [hz] at cz
  clear hz
  have gA := grow w (.cells #[.int .i64 o, .int .i64 (s : Int), .int .i64 (t : Int), .int .i64 (d : Int), .int .i64 (a : Int), .int .i64 i] 73)
  have gB := grow (w.alloc (.cells #[.int .i64 o, .int .i64 (s : Int), .int .i64 (t : Int), .int .i64 (d : Int), .int .i64 (a : Int), .int .i64 i] 73)) (.cells (cellsF F0) 75)
  have M0 := hide ((h.on gA).on gB)
  have L0 := hide ((Box.new w #[.int .i64 o, .int .i64 (s : Int), .int .i64 (t : Int), .int .i64 (d : Int), .int .i64 (a : Int), .int .i64 i] 73).on gB)
  have R0 := hide (Box.new (w.alloc (.cells #[.int .i64 o, .int .i64 (s : Int), .int .i64 (t : Int), .int .i64 (d : Int), .int .i64 (a : Int), .int .i64 i] 73)) (cellsF F0) 75)
  have BX := hide (onto gA (Nat.le_refl _) gB)
  have si0 : (0 : Int) ≤ (s : Int) := by omega
  have si : (s : Int) < 32 := by omega
  have ti0 : (0 : Int) ≤ (t : Int) := by omega
  have ti : (t : Int) < 32 := by omega
  replace cpl := hide cpl
  replace hE := hide hE
  replace hO := hide hO
  replace hG := hide hG
  replace h67 := hide h67
  have cq := hide fun x (hx : Box x cb (cellsC m.c)) => putReg_any hx t ht W
  have hWc := hide (putC_w h.wc t hW)
  rw [hC1] at cq hWc
  clear hC1
  have hbb : bb < w.heap.size := h.bus.lt
  have hgg : g < w.heap.size := h.bus.m.zg
  have hcc : cb < w.heap.size := h.bx.2.2
  have hpp : p < w.heap.size := h.bus.m.zp
  have h2 : 2 ≤ w.heap.size := h.tb.n
  clear gA gB h
  go_enter Tryz.func61, Tryz.ntmps61
  go_wp2_with fail
  refine (cz.out _).mono ?_
  rintro r w1 ⟨rfl, rfl⟩
  go_wp2_with fail
  rw [show (w.alloc (.cells #[.int .i64 o, .int .i64 (s : Int), .int .i64 (t : Int), .int .i64 (d : Int), .int .i64 (a : Int), .int .i64 i] 73)).heap.size = w.heap.size + 1 by simp] at R0
  generalize (w.alloc (.cells #[.int .i64 o, .int .i64 (s : Int), .int .i64 (t : Int), .int .i64 (d : Int), .int .i64 (a : Int), .int .i64 i] 73)).alloc (.cells (cellsF F0) 75) = X0 at *
  have hLe : w.heap.size < X0.heap.size := L0.out.2.2
  have hRe : w.heap.size + 1 < X0.heap.size := R0.out.2.2
  go_cut [9, 10, 11] from 17 (fun s9 s10 s11 x => ∃ LB, s9 = .int .u32 P ∧ s10 = .pointer (some ⟨LB, 0, none⟩) ∧ s11 = .bool K ∧ Hid (Box x LB (cellsF F) ∧ X0.heap.size ≤ LB ∧ Below X0.heap.size X0 x))
  case first =>
    clear t1 t2 t3 t4 t5 t6 t7 t8 t9
    refine wp_region_held_drew (S := fun x => Below X0.heap.size X0 x) (by kernel_rfl) ((Below.refl _ _).drew) (fun hHeld => ?_)
    generalize X0.drew = xd at *
    refine wpAnyH_take (i := 0) (oi := { dst := some 18, op := Op.move (Operand.tmp 0), type := 44, pos := "do.go:263", after := #[], guard := none }) (v := ?_) rfl (by kernel_rfl) (by kernel_rfl) (by kernel_rfl) (fun _ _ _ h => h) (Or.inl ⟨by rfl, ?_⟩) (by assumption) ?_
    rotate_left
    · intro y hSw
      have q0 := (L0.out.on hSw).cell 1; have q1 := (L0.out.on hSw).cell 5; have q2 := (M0.out.bx.on hSw).cell (3 + s)
      go_simp
      try with_reducible rfl
    try simp only [Act.put, List.setIfInBounds_toArray, List.set_cons_zero, List.set_cons_succ]
    refine wpAnyH_take (i := 1) (oi := { dst := some 19, op := Op.move (Operand.tmp 0), type := 44, pos := "do.go:263", after := #[], guard := none }) (v := ?_) rfl (by kernel_rfl) (by kernel_rfl) (by kernel_rfl) (fun _ _ _ h => h) (Or.inl ⟨by rfl, ?_⟩) (by assumption) ?_
    rotate_left
    · intro y hSw
      have q0 := (L0.out.on hSw).cell 1; have q1 := (L0.out.on hSw).cell 5; have q2 := (M0.out.bx.on hSw).cell (3 + s)
      go_simp
      try with_reducible rfl
    try simp only [Act.put, List.setIfInBounds_toArray, List.set_cons_zero, List.set_cons_succ]
    refine wpAnyH_take (i := 2) (oi := { dst := some 20, op := Op.fieldAddr 73 (Operand.tmp 5) 1, type := 0, pos := "do.go:263", after := #[], guard := none }) (v := ?_) rfl (by kernel_rfl) (by kernel_rfl) (by kernel_rfl) (fun _ _ _ h => h) (Or.inl ⟨by rfl, ?_⟩) (by assumption) ?_
    rotate_left
    · intro y hSw
      have q0 := (L0.out.on hSw).cell 1; have q1 := (L0.out.on hSw).cell 5; have q2 := (M0.out.bx.on hSw).cell (3 + s)
      go_simp
      try with_reducible rfl
    try simp only [Act.put, List.setIfInBounds_toArray, List.set_cons_zero, List.set_cons_succ]
    refine wpAnyH_take (i := 3) (oi := { dst := some 21, op := Op.load 3 (Operand.tmp 20), type := 3, pos := "do.go:263", after := #[{ on := 2, ground := Ground.data }], guard := none }) (v := ?_) rfl (by kernel_rfl) (by kernel_rfl) (by kernel_rfl) (fun _ _ _ h => h) (Or.inl ⟨by rfl, ?_⟩) (by assumption) ?_
    rotate_left
    · intro y hSw
      have q0 := (L0.out.on hSw).cell 1; have q1 := (L0.out.on hSw).cell 5; have q2 := (M0.out.bx.on hSw).cell (3 + s)
      go_simp
      try with_reducible rfl
    try simp only [Act.put, List.setIfInBounds_toArray, List.set_cons_zero, List.set_cons_succ]
    refine wpAnyH_take (i := 4) (oi := { dst := some 22, op := Op.nilCheck (Operand.tmp 19), type := 0, pos := "do.go:263", after := #[{ on := 1, ground := Ground.data }], guard := none }) (v := ?_) rfl (by kernel_rfl) (by kernel_rfl) (by kernel_rfl) (fun _ _ _ h => h) (Or.inl ⟨by rfl, ?_⟩) (by assumption) ?_
    rotate_left
    · intro y hSw
      have q0 := (L0.out.on hSw).cell 1; have q1 := (L0.out.on hSw).cell 5; have q2 := (M0.out.bx.on hSw).cell (3 + s)
      go_simp
      try with_reducible rfl
    try simp only [Act.put, List.setIfInBounds_toArray, List.set_cons_zero, List.set_cons_succ]
    refine wpAnyH_take (i := 5) (oi := { dst := some 23, op := Op.fieldAddr 40 (Operand.tmp 22) 3, type := 0, pos := "do.go:263", after := #[{ on := 4, ground := Ground.data }], guard := none }) (v := ?_) rfl (by kernel_rfl) (by kernel_rfl) (by kernel_rfl) (fun _ _ _ h => h) (Or.inl ⟨by rfl, ?_⟩) (by assumption) ?_
    rotate_left
    · intro y hSw
      have q0 := (L0.out.on hSw).cell 1; have q1 := (L0.out.on hSw).cell 5; have q2 := (M0.out.bx.on hSw).cell (3 + s)
      go_simp
      try with_reducible rfl
    try simp only [Act.put, List.setIfInBounds_toArray, List.set_cons_zero, List.set_cons_succ]
    refine wpAnyH_take (i := 6) (oi := { dst := some 24, op := Op.indexAddr 24 (Operand.tmp 23) (Operand.tmp 21), type := 0, pos := "do.go:263", after := #[{ on := 5, ground := Ground.data }, { on := 3, ground := Ground.data }], guard := none }) (v := ?_) rfl (by kernel_rfl) (by kernel_rfl) (by kernel_rfl) (fun _ _ _ h => h) (Or.inl ⟨by rfl, ?_⟩) (by assumption) ?_
    rotate_left
    · intro y hSw
      have q0 := (L0.out.on hSw).cell 1; have q1 := (L0.out.on hSw).cell 5; have q2 := (M0.out.bx.on hSw).cell (3 + s)
      go_simp
      try with_reducible rfl
    try simp only [Act.put, List.setIfInBounds_toArray, List.set_cons_zero, List.set_cons_succ]
    refine wpAnyH_take (i := 7) (oi := { dst := some 25, op := Op.load 23 (Operand.tmp 24), type := 23, pos := "do.go:263", after := #[{ on := 6, ground := Ground.data }], guard := none }) (v := ?_) rfl (by kernel_rfl) (by kernel_rfl) (by kernel_rfl) (fun _ _ _ h => h) (Or.inl ⟨by rfl, ?_⟩) (by assumption) ?_
    rotate_left
    · intro y hSw
      have q0 := (L0.out.on hSw).cell 1; have q1 := (L0.out.on hSw).cell 5; have q2 := (M0.out.bx.on hSw).cell (3 + s)
      go_simp
      try with_reducible rfl
    try simp only [Act.put, List.setIfInBounds_toArray, List.set_cons_zero, List.set_cons_succ]
    refine wpAnyH_take (i := 8) (oi := { dst := some 26, op := Op.fieldAddr 73 (Operand.tmp 5) 5, type := 0, pos := "do.go:263", after := #[], guard := none }) (v := ?_) rfl (by kernel_rfl) (by kernel_rfl) (by kernel_rfl) (fun _ _ _ h => h) (Or.inl ⟨by rfl, ?_⟩) (by assumption) ?_
    rotate_left
    · intro y hSw
      have q0 := (L0.out.on hSw).cell 1; have q1 := (L0.out.on hSw).cell 5; have q2 := (M0.out.bx.on hSw).cell (3 + s)
      go_simp
      try with_reducible rfl
    try simp only [Act.put, List.setIfInBounds_toArray, List.set_cons_zero, List.set_cons_succ]
    refine wpAnyH_take (i := 9) (oi := { dst := some 27, op := Op.load 3 (Operand.tmp 26), type := 3, pos := "do.go:263", after := #[{ on := 8, ground := Ground.data }], guard := none }) (v := ?_) rfl (by kernel_rfl) (by kernel_rfl) (by kernel_rfl) (fun _ _ _ h => h) (Or.inl ⟨by rfl, ?_⟩) (by assumption) ?_
    rotate_left
    · intro y hSw
      have q0 := (L0.out.on hSw).cell 1; have q1 := (L0.out.on hSw).cell 5; have q2 := (M0.out.bx.on hSw).cell (3 + s)
      go_simp
      try with_reducible rfl
    try simp only [Act.put, List.setIfInBounds_toArray, List.set_cons_zero, List.set_cons_succ]
    refine wpAnyH_take (i := 10) (oi := { dst := some 28, op := Op.convert 3 23 (Operand.tmp 27), type := 23, pos := "do.go:263", after := #[{ on := 9, ground := Ground.data }], guard := none }) (v := ?_) rfl (by kernel_rfl) (by kernel_rfl) (by kernel_rfl) (fun _ _ _ h => h) (Or.inl ⟨by rfl, ?_⟩) (by assumption) ?_
    rotate_left
    · intro y hSw
      have q0 := (L0.out.on hSw).cell 1; have q1 := (L0.out.on hSw).cell 5; have q2 := (M0.out.bx.on hSw).cell (3 + s)
      go_simp
      try with_reducible rfl
    try simp only [Act.put, List.setIfInBounds_toArray, List.set_cons_zero, List.set_cons_succ]
    refine wpAnyH_take (i := 11) (oi := { dst := some 29, op := Op.binOp BinOp.add 23 (Operand.tmp 25) (Operand.tmp 28) 23, type := 23, pos := "do.go:263", after := #[{ on := 7, ground := Ground.data }, { on := 10, ground := Ground.data }], guard := none }) (v := ?_) rfl (by kernel_rfl) (by kernel_rfl) (by kernel_rfl) (fun _ _ _ h => h) (Or.inl ⟨by rfl, ?_⟩) (by assumption) ?_
    rotate_left
    · intro y hSw
      have q0 := (L0.out.on hSw).cell 1; have q1 := (L0.out.on hSw).cell 5; have q2 := (M0.out.bx.on hSw).cell (3 + s)
      go_simp
      try with_reducible rfl
    try simp only [Act.put, List.setIfInBounds_toArray, List.set_cons_zero, List.set_cons_succ]
    refine wpAnyH_take (i := 12) (oi := { dst := some 30, op := Op.move (Operand.tmp 8), type := 3, pos := "do.go:263", after := #[], guard := none }) (v := ?_) rfl (by kernel_rfl) (by kernel_rfl) (by kernel_rfl) (fun _ _ _ h => h) (Or.inl ⟨by rfl, ?_⟩) (by assumption) ?_
    rotate_left
    · intro y hSw
      have q0 := (L0.out.on hSw).cell 1; have q1 := (L0.out.on hSw).cell 5; have q2 := (M0.out.bx.on hSw).cell (3 + s)
      go_simp
      try with_reducible rfl
    try simp only [Act.put, List.setIfInBounds_toArray, List.set_cons_zero, List.set_cons_succ]
    refine wpAnyH_ready (rs := [13, 18]) (by kernel_rfl) (by simp) ?_
    refine AllReadyH.cons (o := { dst := some 31, op := Op.call { callee := Callee.value (Operand.func 51), args := #[Operand.tmp 18, Operand.tmp 29, Operand.tmp 30, Operand.const (Value.bool false)], argTypes := #[44, 23, 3, 4] }, type := 122, pos := "do.go:263", after := #[{ on := 0, ground := Ground.data }, { on := 11, ground := Ground.data }, { on := 12, ground := Ground.data }], guard := none }) rfl (fun K hK => ?_) ?_
    · go_simp
      refine (cpl.out _ (M0.out.bx.on hHeld)).mono ?_
      rintro r x1 ⟨rfl, hn1⟩
      go_wp2_with fail
      refine hK.out _ _ (onto hHeld (Nat.le_refl _) hn1) (fun hHeld => ?_)
      clear hK K
      try simp only [Act.put, List.setIfInBounds_toArray, List.set_cons_zero, List.set_cons_succ]
      clear hn1
      refine wpAnyH_take (i := 14) (oi := { dst := some 17, op := Op.move (Operand.tmp 31), type := 122, pos := "do.go:263", after := #[{ on := 13, ground := Ground.data }], guard := none }) (v := ?_) rfl (by kernel_rfl) (by kernel_rfl) (by kernel_rfl) (fun _ _ _ h => h) (Or.inl ⟨by rfl, ?_⟩) (by assumption) ?_
      rotate_left
      · intro y hSw
        have q0 := (L0.out.on hSw).cell 1; have q1 := (L0.out.on hSw).cell 5; have q2 := (M0.out.bx.on hSw).cell (3 + s)
        go_simp
        try with_reducible rfl
      try simp only [Act.put, List.setIfInBounds_toArray, List.set_cons_zero, List.set_cons_succ]
      refine wpAnyH_take (i := 15) (oi := { dst := some 32, op := Op.extract (Operand.tmp 17) 0, type := 23, pos := "do.go:263", after := #[{ on := 14, ground := Ground.data }], guard := none }) (v := ?_) rfl (by kernel_rfl) (by kernel_rfl) (by kernel_rfl) (fun _ _ _ h => h) (Or.inl ⟨by rfl, ?_⟩) (by assumption) ?_
      rotate_left
      · intro y hSw
        have q0 := (L0.out.on hSw).cell 1; have q1 := (L0.out.on hSw).cell 5; have q2 := (M0.out.bx.on hSw).cell (3 + s)
        go_simp
        try with_reducible rfl
      try simp only [Act.put, List.setIfInBounds_toArray, List.set_cons_zero, List.set_cons_succ]
      refine wpAnyH_take (i := 16) (oi := { dst := some 33, op := Op.extract (Operand.tmp 17) 1, type := 75, pos := "do.go:263", after := #[{ on := 14, ground := Ground.data }, { on := 19, ground := Ground.gcOnly Departure.lateStores }], guard := none }) (v := ?_) rfl (by kernel_rfl) (by kernel_rfl) (by kernel_rfl) (fun _ _ _ h => h) (Or.inl ⟨by rfl, ?_⟩) (by assumption) ?_
      rotate_left
      · intro y hSw
        have q0 := (L0.out.on hSw).cell 1; have q1 := (L0.out.on hSw).cell 5; have q2 := (M0.out.bx.on hSw).cell (3 + s)
        go_simp
        try with_reducible rfl
      try simp only [Act.put, List.setIfInBounds_toArray, List.set_cons_zero, List.set_cons_succ]
      refine wpAnyH_take (i := 17) (oi := { dst := some 34, op := Op.extract (Operand.tmp 17) 2, type := 4, pos := "do.go:263", after := #[{ on := 14, ground := Ground.data }, { on := 20, ground := Ground.gcOnly Departure.lateStores }], guard := none }) (v := ?_) rfl (by kernel_rfl) (by kernel_rfl) (by kernel_rfl) (fun _ _ _ h => h) (Or.inl ⟨by rfl, ?_⟩) (by assumption) ?_
      rotate_left
      · intro y hSw
        have q0 := (L0.out.on hSw).cell 1; have q1 := (L0.out.on hSw).cell 5; have q2 := (M0.out.bx.on hSw).cell (3 + s)
        go_simp
        try with_reducible rfl
      try simp only [Act.put, List.setIfInBounds_toArray, List.set_cons_zero, List.set_cons_succ]
      refine wpAnyH_ready (rs := [18]) (by kernel_rfl) (by simp) ?_
      refine AllReadyH.cons (o := { dst := some 10, op := Op.alloc 75, type := 0, pos := "do.go:263", after := #[], guard := none }) rfl (fun K hK => ?_) AllReadyH.nil
      have gA := grow x1 (.cells (cellsF F0) 75)
      have RB := Box.new x1 (cellsF F0) 75
      have hLB : X0.heap.size ≤ x1.heap.size := hHeld.size
      go_simp
      refine hK.out _ _ (onto hHeld (Nat.le_refl _) gA) (fun hHeld => ?_)
      clear hK K
      try simp only [Act.put, List.setIfInBounds_toArray, List.set_cons_zero, List.set_cons_succ]
      clear gA
      generalize x1.alloc (.cells (cellsF F0) 75) = x2 at *
      generalize x1.heap.size = LB at *
      refine wpAnyH_take (i := 19) (oi := { dst := some 9, op := Op.assign (Operand.tmp 32), type := 23, pos := "do.go:263", after := #[{ on := 15, ground := Ground.data }, { on := 13, ground := Ground.chain }, { on := 0, ground := Ground.phase }, { on := 1, ground := Ground.phase }, { on := 2, ground := Ground.phase }, { on := 3, ground := Ground.phase }, { on := 4, ground := Ground.phase }, { on := 5, ground := Ground.phase }, { on := 6, ground := Ground.phase }, { on := 7, ground := Ground.phase }, { on := 8, ground := Ground.phase }, { on := 9, ground := Ground.phase }, { on := 10, ground := Ground.phase }, { on := 11, ground := Ground.phase }, { on := 12, ground := Ground.phase }, { on := 13, ground := Ground.phase }, { on := 14, ground := Ground.phase }, { on := 15, ground := Ground.phase }, { on := 16, ground := Ground.textOnly Departure.lateStores }, { on := 17, ground := Ground.textOnly Departure.lateStores }, { on := 18, ground := Ground.phase }], guard := none }) (v := ?_) rfl (by kernel_rfl) (by kernel_rfl) (by kernel_rfl) (fun _ _ _ h => h) (Or.inl ⟨by rfl, ?_⟩) (by assumption) ?_
      rotate_left
      · intro y hSw
        have q0 := (L0.out.on hSw).cell 1; have q1 := (L0.out.on hSw).cell 5; have q2 := (M0.out.bx.on hSw).cell (3 + s)
        go_simp
        try with_reducible rfl
      try simp only [Act.put, List.setIfInBounds_toArray, List.set_cons_zero, List.set_cons_succ]
      refine wpAnyH_ready (rs := [20]) (by kernel_rfl) (by simp) ?_
      refine AllReadyH.cons (o := { dst := none, op := Op.store 75 (Operand.tmp 10) (Operand.tmp 33), type := 0, pos := "do.go:263", after := #[{ on := 18, ground := Ground.data }, { on := 16, ground := Ground.data }, { on := 19, ground := Ground.chain }, { on := 0, ground := Ground.phase }, { on := 1, ground := Ground.phase }, { on := 2, ground := Ground.phase }, { on := 3, ground := Ground.phase }, { on := 4, ground := Ground.phase }, { on := 5, ground := Ground.phase }, { on := 6, ground := Ground.phase }, { on := 7, ground := Ground.phase }, { on := 8, ground := Ground.phase }, { on := 9, ground := Ground.phase }, { on := 10, ground := Ground.phase }, { on := 11, ground := Ground.phase }, { on := 12, ground := Ground.phase }, { on := 13, ground := Ground.phase }, { on := 14, ground := Ground.phase }, { on := 15, ground := Ground.phase }, { on := 16, ground := Ground.phase }, { on := 17, ground := Ground.textOnly Departure.lateStores }, { on := 18, ground := Ground.phase }, { on := 19, ground := Ground.phase }], guard := none }) rfl (fun K hK => ?_) AllReadyH.nil
      have hst := store_part x2 LB 0 (cellsF F) RB.1 (by rw [RB.2.1]; rfl) rfl
      rw [RB.2.1, zf6] at hst
      have RC := RB.set (cellsF F)
      go_simp
      refine hK.out _ _ (below_setRow hHeld hLB _) (fun hHeld => ?_)
      clear hK K
      try simp only [Act.put, List.setIfInBounds_toArray, List.set_cons_zero, List.set_cons_succ]
      clear hst RB
      generalize x2.setRow LB (cellsF F) = x3 at *
      refine wpAnyH_take (i := 21) (oi := { dst := some 11, op := Op.assign (Operand.tmp 34), type := 4, pos := "do.go:263", after := #[{ on := 17, ground := Ground.data }, { on := 20, ground := Ground.chain }, { on := 0, ground := Ground.phase }, { on := 1, ground := Ground.phase }, { on := 2, ground := Ground.phase }, { on := 3, ground := Ground.phase }, { on := 4, ground := Ground.phase }, { on := 5, ground := Ground.phase }, { on := 6, ground := Ground.phase }, { on := 7, ground := Ground.phase }, { on := 8, ground := Ground.phase }, { on := 9, ground := Ground.phase }, { on := 10, ground := Ground.phase }, { on := 11, ground := Ground.phase }, { on := 12, ground := Ground.phase }, { on := 13, ground := Ground.phase }, { on := 14, ground := Ground.phase }, { on := 15, ground := Ground.phase }, { on := 16, ground := Ground.phase }, { on := 17, ground := Ground.phase }, { on := 18, ground := Ground.phase }, { on := 19, ground := Ground.phase }, { on := 20, ground := Ground.phase }], guard := none }) (v := ?_) rfl (by kernel_rfl) (by kernel_rfl) (by kernel_rfl) (fun _ _ _ h => h) (Or.inl ⟨by rfl, ?_⟩) (by assumption) ?_
      rotate_left
      · intro y hSw
        have q0 := (L0.out.on hSw).cell 1; have q1 := (L0.out.on hSw).cell 5; have q2 := (M0.out.bx.on hSw).cell (3 + s)
        go_simp
        try with_reducible rfl
      try simp only [Act.put, List.setIfInBounds_toArray, List.set_cons_zero, List.set_cons_succ]
      refine wpAnyH_done (by kernel_rfl) ?_ _
      go_wp2_with fail
      go_meet
      case rel => exact ⟨LB, rfl, rfl, rfl, hide ⟨RC, hLB, hHeld⟩⟩
    refine AllReadyH.cons (o := { dst := some 10, op := Op.alloc 75, type := 0, pos := "do.go:263", after := #[], guard := none }) rfl (fun K hK => ?_) AllReadyH.nil
    have gA := grow xd (.cells (cellsF F0) 75)
    have RB := Box.new xd (cellsF F0) 75
    have hLB : X0.heap.size ≤ xd.heap.size := hHeld.size
    go_simp
    refine hK.out _ _ (onto hHeld (Nat.le_refl _) gA) (fun hHeld => ?_)
    clear hK K
    try simp only [Act.put, List.setIfInBounds_toArray, List.set_cons_zero, List.set_cons_succ]
    clear gA
    generalize xd.alloc (.cells (cellsF F0) 75) = x1 at *
    generalize xd.heap.size = LB at *
    refine wpAnyH_ready (rs := [13]) (by kernel_rfl) (by simp) ?_
    refine AllReadyH.cons (o := { dst := some 31, op := Op.call { callee := Callee.value (Operand.func 51), args := #[Operand.tmp 18, Operand.tmp 29, Operand.tmp 30, Operand.const (Value.bool false)], argTypes := #[44, 23, 3, 4] }, type := 122, pos := "do.go:263", after := #[{ on := 0, ground := Ground.data }, { on := 11, ground := Ground.data }, { on := 12, ground := Ground.data }], guard := none }) rfl (fun K hK => ?_) AllReadyH.nil
    go_simp
    refine (cpl.out _ (M0.out.bx.on hHeld)).mono ?_
    rintro r x2 ⟨rfl, hn1⟩
    replace RB := RB.on hn1
    go_wp2_with fail
    refine hK.out _ _ (onto hHeld (Nat.le_refl _) hn1) (fun hHeld => ?_)
    clear hK K
    try simp only [Act.put, List.setIfInBounds_toArray, List.set_cons_zero, List.set_cons_succ]
    clear hn1
    refine wpAnyH_take (i := 14) (oi := { dst := some 17, op := Op.move (Operand.tmp 31), type := 122, pos := "do.go:263", after := #[{ on := 13, ground := Ground.data }], guard := none }) (v := ?_) rfl (by kernel_rfl) (by kernel_rfl) (by kernel_rfl) (fun _ _ _ h => h) (Or.inl ⟨by rfl, ?_⟩) (by assumption) ?_
    rotate_left
    · intro y hSw
      have q0 := (L0.out.on hSw).cell 1; have q1 := (L0.out.on hSw).cell 5; have q2 := (M0.out.bx.on hSw).cell (3 + s)
      go_simp
      try with_reducible rfl
    try simp only [Act.put, List.setIfInBounds_toArray, List.set_cons_zero, List.set_cons_succ]
    refine wpAnyH_take (i := 15) (oi := { dst := some 32, op := Op.extract (Operand.tmp 17) 0, type := 23, pos := "do.go:263", after := #[{ on := 14, ground := Ground.data }], guard := none }) (v := ?_) rfl (by kernel_rfl) (by kernel_rfl) (by kernel_rfl) (fun _ _ _ h => h) (Or.inl ⟨by rfl, ?_⟩) (by assumption) ?_
    rotate_left
    · intro y hSw
      have q0 := (L0.out.on hSw).cell 1; have q1 := (L0.out.on hSw).cell 5; have q2 := (M0.out.bx.on hSw).cell (3 + s)
      go_simp
      try with_reducible rfl
    try simp only [Act.put, List.setIfInBounds_toArray, List.set_cons_zero, List.set_cons_succ]
    refine wpAnyH_take (i := 16) (oi := { dst := some 33, op := Op.extract (Operand.tmp 17) 1, type := 75, pos := "do.go:263", after := #[{ on := 14, ground := Ground.data }, { on := 19, ground := Ground.gcOnly Departure.lateStores }], guard := none }) (v := ?_) rfl (by kernel_rfl) (by kernel_rfl) (by kernel_rfl) (fun _ _ _ h => h) (Or.inl ⟨by rfl, ?_⟩) (by assumption) ?_
    rotate_left
    · intro y hSw
      have q0 := (L0.out.on hSw).cell 1; have q1 := (L0.out.on hSw).cell 5; have q2 := (M0.out.bx.on hSw).cell (3 + s)
      go_simp
      try with_reducible rfl
    try simp only [Act.put, List.setIfInBounds_toArray, List.set_cons_zero, List.set_cons_succ]
    refine wpAnyH_take (i := 17) (oi := { dst := some 34, op := Op.extract (Operand.tmp 17) 2, type := 4, pos := "do.go:263", after := #[{ on := 14, ground := Ground.data }, { on := 20, ground := Ground.gcOnly Departure.lateStores }], guard := none }) (v := ?_) rfl (by kernel_rfl) (by kernel_rfl) (by kernel_rfl) (fun _ _ _ h => h) (Or.inl ⟨by rfl, ?_⟩) (by assumption) ?_
    rotate_left
    · intro y hSw
      have q0 := (L0.out.on hSw).cell 1; have q1 := (L0.out.on hSw).cell 5; have q2 := (M0.out.bx.on hSw).cell (3 + s)
      go_simp
      try with_reducible rfl
    try simp only [Act.put, List.setIfInBounds_toArray, List.set_cons_zero, List.set_cons_succ]
    refine wpAnyH_take (i := 19) (oi := { dst := some 9, op := Op.assign (Operand.tmp 32), type := 23, pos := "do.go:263", after := #[{ on := 15, ground := Ground.data }, { on := 13, ground := Ground.chain }, { on := 0, ground := Ground.phase }, { on := 1, ground := Ground.phase }, { on := 2, ground := Ground.phase }, { on := 3, ground := Ground.phase }, { on := 4, ground := Ground.phase }, { on := 5, ground := Ground.phase }, { on := 6, ground := Ground.phase }, { on := 7, ground := Ground.phase }, { on := 8, ground := Ground.phase }, { on := 9, ground := Ground.phase }, { on := 10, ground := Ground.phase }, { on := 11, ground := Ground.phase }, { on := 12, ground := Ground.phase }, { on := 13, ground := Ground.phase }, { on := 14, ground := Ground.phase }, { on := 15, ground := Ground.phase }, { on := 16, ground := Ground.textOnly Departure.lateStores }, { on := 17, ground := Ground.textOnly Departure.lateStores }, { on := 18, ground := Ground.phase }], guard := none }) (v := ?_) rfl (by kernel_rfl) (by kernel_rfl) (by kernel_rfl) (fun _ _ _ h => h) (Or.inl ⟨by rfl, ?_⟩) (by assumption) ?_
    rotate_left
    · intro y hSw
      have q0 := (L0.out.on hSw).cell 1; have q1 := (L0.out.on hSw).cell 5; have q2 := (M0.out.bx.on hSw).cell (3 + s)
      go_simp
      try with_reducible rfl
    try simp only [Act.put, List.setIfInBounds_toArray, List.set_cons_zero, List.set_cons_succ]
    refine wpAnyH_ready (rs := [20]) (by kernel_rfl) (by simp) ?_
    refine AllReadyH.cons (o := { dst := none, op := Op.store 75 (Operand.tmp 10) (Operand.tmp 33), type := 0, pos := "do.go:263", after := #[{ on := 18, ground := Ground.data }, { on := 16, ground := Ground.data }, { on := 19, ground := Ground.chain }, { on := 0, ground := Ground.phase }, { on := 1, ground := Ground.phase }, { on := 2, ground := Ground.phase }, { on := 3, ground := Ground.phase }, { on := 4, ground := Ground.phase }, { on := 5, ground := Ground.phase }, { on := 6, ground := Ground.phase }, { on := 7, ground := Ground.phase }, { on := 8, ground := Ground.phase }, { on := 9, ground := Ground.phase }, { on := 10, ground := Ground.phase }, { on := 11, ground := Ground.phase }, { on := 12, ground := Ground.phase }, { on := 13, ground := Ground.phase }, { on := 14, ground := Ground.phase }, { on := 15, ground := Ground.phase }, { on := 16, ground := Ground.phase }, { on := 17, ground := Ground.textOnly Departure.lateStores }, { on := 18, ground := Ground.phase }, { on := 19, ground := Ground.phase }], guard := none }) rfl (fun K hK => ?_) AllReadyH.nil
    have hst := store_part x2 LB 0 (cellsF F) RB.1 (by rw [RB.2.1]; rfl) rfl
    rw [RB.2.1, zf6] at hst
    have RC := RB.set (cellsF F)
    go_simp
    refine hK.out _ _ (below_setRow hHeld hLB _) (fun hHeld => ?_)
    clear hK K
    try simp only [Act.put, List.setIfInBounds_toArray, List.set_cons_zero, List.set_cons_succ]
    clear hst RB
    generalize x2.setRow LB (cellsF F) = x3 at *
    refine wpAnyH_take (i := 21) (oi := { dst := some 11, op := Op.assign (Operand.tmp 34), type := 4, pos := "do.go:263", after := #[{ on := 17, ground := Ground.data }, { on := 20, ground := Ground.chain }, { on := 0, ground := Ground.phase }, { on := 1, ground := Ground.phase }, { on := 2, ground := Ground.phase }, { on := 3, ground := Ground.phase }, { on := 4, ground := Ground.phase }, { on := 5, ground := Ground.phase }, { on := 6, ground := Ground.phase }, { on := 7, ground := Ground.phase }, { on := 8, ground := Ground.phase }, { on := 9, ground := Ground.phase }, { on := 10, ground := Ground.phase }, { on := 11, ground := Ground.phase }, { on := 12, ground := Ground.phase }, { on := 13, ground := Ground.phase }, { on := 14, ground := Ground.phase }, { on := 15, ground := Ground.phase }, { on := 16, ground := Ground.phase }, { on := 17, ground := Ground.phase }, { on := 18, ground := Ground.phase }, { on := 19, ground := Ground.phase }, { on := 20, ground := Ground.phase }], guard := none }) (v := ?_) rfl (by kernel_rfl) (by kernel_rfl) (by kernel_rfl) (fun _ _ _ h => h) (Or.inl ⟨by rfl, ?_⟩) (by assumption) ?_
    rotate_left
    · intro y hSw
      have q0 := (L0.out.on hSw).cell 1; have q1 := (L0.out.on hSw).cell 5; have q2 := (M0.out.bx.on hSw).cell (3 + s)
      go_simp
      try with_reducible rfl
    try simp only [Act.put, List.setIfInBounds_toArray, List.set_cons_zero, List.set_cons_succ]
    refine wpAnyH_done (by kernel_rfl) ?_ _
    go_wp2_with fail
    go_meet
    case rel => exact ⟨LB, rfl, rfl, rfl, hide ⟨RC, hLB, hHeld⟩⟩

  case rest =>
    obtain ⟨LB, rfl, rfl, rfl, HC⟩ := hcut
    have M1 := hide (M0.out.on HC.out.2.2)
    have L1 := hide (L0.out.on HC.out.2.2)
    have R1 := hide (R0.out.on HC.out.2.2)
    have K1 := hide (onto BX.out (Nat.le_refl _) (HC.out.2.2.mono (by omega)))
    have FB := HC.out.1
    have hLB := HC.out.2.1
    clear HC M0 L0 R0 BX
    have rR := R1.out
    obtain ⟨rr1, rr2, rr3⟩ := rR
    have bS := hide fun (q : Array Value) => Kept.below (l := [w.heap.size + 1]) K1.out (Kept.set wc (w.heap.size + 1) q (by simp)) (Nat.le_refl _) (by simp)
    rcases hO.out with ⟨rfl, rfl⟩ | ⟨rfl, e0, rfl⟩ | ⟨rfl, rfl, rfl⟩
    · have ldF := FB.loads (d := cellsF F) 0 NF rfl rfl
      go_wp2
      exact bodyPost_ret (v := .tuple #[.agg (cellsF F), .bool false]) (by simp [results, Tryz.results61, go_sem, t3, rr1, zf1, zf5, zf7, zf8]) rfl ⟨rfl, M1.out.far _ _ (by omega) (by omega) (by omega) (by omega) (by omega), Kept.of (bS.out _)⟩
    · obtain ⟨q1, q2⟩ := hPw
      have cl := hide (load_is M1.out.bus P Z q1 q2)
      have hv : V = m.v := by
        have := ((ldA_w (n := n) M1.out.bus.wv m.B P Z).2 (by rw [hL]; simpa using e0)).2
        rwa [hL] at this
      rw [hL] at cl
      subst hv
      go_wp2_with fail
      refine cl.out.mono ?_
      rintro r w2 ⟨rfl, B2, K2⟩
      have M3 := hide (M1.out.turn B2 (K2.mono (by simp)))
      have R3 := hide (R1.out.kept K2 (by simp; omega))
      have K3 := hide ((Kept.of (l := [cb, bb, g]) K1.out).trans (K2.mono (by simp)))
      clear rr1 rr2 rr3 cl B2 K2 bS
      obtain ⟨rr1, rr2, rr3⟩ := R3.out
      go_wp2
      exact bodyPost_ret (v := .tuple #[.agg (cellsF (ftC 7)), .bool false]) (by simp [results, Tryz.results61, go_sem, t3, rr1, zf1, zf5, zf7, zf8]; rfl) rfl ⟨rfl, M3.out.far _ _ (by omega) (by omega) (by omega) (by omega) (by omega), K3.out.late _ _ (by omega)⟩
    · obtain ⟨q1, q2⟩ := hPw
      have cl := hide (load_is M1.out.bus P Z q1 q2)
      rw [hL] at cl
      go_wp2_with fail
      refine cl.out.mono ?_
      rintro r w2 ⟨rfl, B2, K2⟩
      have M3 := hide (M1.out.turn B2 (K2.mono (by simp)))
      have L3 := hide (L1.out.kept K2 (by simp; omega))
      have R3 := hide (R1.out.kept K2 (by simp; omega))
      have K3 := hide ((Kept.of (l := [cb, bb, g]) K1.out).trans (K2.mono (by simp)))
      clear rr1 rr2 rr3 cl B2 K2 bS M1 L1 R1 K1
      rcases hG.out with ⟨rfl, rfl⟩ | ⟨g1, g2⟩
      · go_wp2_with fail
        refine wp_region_held_drew (S := fun x => Box x w.heap.size #[.int .i64 59, .int .i64 (s : Int), .int .i64 (t : Int), .int .i64 (d : Int), .int .i64 (a : Int), .int .i64 i]) (by kernel_rfl) L3.out.drew (fun hHeld => ?_)
        replace M3 := hide M3.out.drew
        replace K3 := hide K3.out.drew
        replace R3 : Hid (Box w2.drew (w.heap.size + 1) (cellsF F0)) := hide R3.out.drew
        generalize w2.drew = xd at *
        clear t1 t2 t3 t4 t5 t6 t7 t8 t9
        refine wpAnyH_take (i := 0) (oi := { dst := some 48, op := Op.move (Operand.tmp 0), type := 44, pos := "do.go:271", after := #[], guard := none }) (v := ?_) rfl (by kernel_rfl) (by kernel_rfl) (by kernel_rfl) (fun _ _ _ h => h) (Or.inl ⟨by rfl, ?_⟩) (by assumption) ?_
        rotate_left
        · intro y hSw
          have q0 := hSw.cell 2; have q1 := hSw.cell 0
          go_simp
          try with_reducible rfl
        try simp only [Act.put, List.setIfInBounds_toArray, List.set_cons_zero, List.set_cons_succ]
        refine wpAnyH_take (i := 1) (oi := { dst := some 49, op := Op.fieldAddr 73 (Operand.tmp 5) 2, type := 0, pos := "do.go:271", after := #[], guard := none }) (v := ?_) rfl (by kernel_rfl) (by kernel_rfl) (by kernel_rfl) (fun _ _ _ h => h) (Or.inl ⟨by rfl, ?_⟩) (by assumption) ?_
        rotate_left
        · intro y hSw
          have q0 := hSw.cell 2; have q1 := hSw.cell 0
          go_simp
          try with_reducible rfl
        try simp only [Act.put, List.setIfInBounds_toArray, List.set_cons_zero, List.set_cons_succ]
        refine wpAnyH_take (i := 2) (oi := { dst := some 50, op := Op.load 3 (Operand.tmp 49), type := 3, pos := "do.go:271", after := #[{ on := 1, ground := Ground.data }], guard := none }) (v := ?_) rfl (by kernel_rfl) (by kernel_rfl) (by kernel_rfl) (fun _ _ _ h => h) (Or.inl ⟨by rfl, ?_⟩) (by assumption) ?_
        rotate_left
        · intro y hSw
          have q0 := hSw.cell 2; have q1 := hSw.cell 0
          go_simp
          try with_reducible rfl
        try simp only [Act.put, List.setIfInBounds_toArray, List.set_cons_zero, List.set_cons_succ]
        refine wpAnyH_take (i := 3) (oi := { dst := some 51, op := Op.move (Operand.tmp 12), type := 23, pos := "do.go:271", after := #[], guard := none }) (v := ?_) rfl (by kernel_rfl) (by kernel_rfl) (by kernel_rfl) (fun _ _ _ h => h) (Or.inl ⟨by rfl, ?_⟩) (by assumption) ?_
        rotate_left
        · intro y hSw
          have q0 := hSw.cell 2; have q1 := hSw.cell 0
          go_simp
          try with_reducible rfl
        try simp only [Act.put, List.setIfInBounds_toArray, List.set_cons_zero, List.set_cons_succ]
        refine wpAnyH_take (i := 4) (oi := { dst := some 52, op := Op.move (Operand.tmp 8), type := 3, pos := "do.go:271", after := #[], guard := none }) (v := ?_) rfl (by kernel_rfl) (by kernel_rfl) (by kernel_rfl) (fun _ _ _ h => h) (Or.inl ⟨by rfl, ?_⟩) (by assumption) ?_
        rotate_left
        · intro y hSw
          have q0 := hSw.cell 2; have q1 := hSw.cell 0
          go_simp
          try with_reducible rfl
        try simp only [Act.put, List.setIfInBounds_toArray, List.set_cons_zero, List.set_cons_succ]
        refine wpAnyH_take (i := 5) (oi := { dst := some 53, op := Op.binOp BinOp.mul 3 (Operand.const (Value.int IntKind.i64 8)) (Operand.tmp 52) 3, type := 3, pos := "do.go:271", after := #[{ on := 4, ground := Ground.data }], guard := none }) (v := ?_) rfl (by kernel_rfl) (by kernel_rfl) (by kernel_rfl) (fun _ _ _ h => h) (Or.inl ⟨by rfl, ?_⟩) (by assumption) ?_
        rotate_left
        · intro y hSw
          have q0 := hSw.cell 2; have q1 := hSw.cell 0
          go_simp
          try with_reducible rfl
        try simp only [Act.put, List.setIfInBounds_toArray, List.set_cons_zero, List.set_cons_succ]
        refine wpAnyH_take (i := 6) (oi := { dst := some 54, op := Op.fieldAddr 73 (Operand.tmp 5) 0, type := 0, pos := "do.go:271", after := #[], guard := none }) (v := ?_) rfl (by kernel_rfl) (by kernel_rfl) (by kernel_rfl) (fun _ _ _ h => h) (Or.inl ⟨by rfl, ?_⟩) (by assumption) ?_
        rotate_left
        · intro y hSw
          have q0 := hSw.cell 2; have q1 := hSw.cell 0
          go_simp
          try with_reducible rfl
        try simp only [Act.put, List.setIfInBounds_toArray, List.set_cons_zero, List.set_cons_succ]
        refine wpAnyH_take (i := 7) (oi := { dst := some 55, op := Op.load 3 (Operand.tmp 54), type := 3, pos := "do.go:271", after := #[{ on := 6, ground := Ground.data }], guard := none }) (v := ?_) rfl (by kernel_rfl) (by kernel_rfl) (by kernel_rfl) (fun _ _ _ h => h) (Or.inl ⟨by rfl, ?_⟩) (by assumption) ?_
        rotate_left
        · intro y hSw
          have q0 := hSw.cell 2; have q1 := hSw.cell 0
          go_simp
          try with_reducible rfl
        try simp only [Act.put, List.setIfInBounds_toArray, List.set_cons_zero, List.set_cons_succ]
        refine wpAnyH_take (i := 8) (oi := { dst := some 56, op := Op.binOp BinOp.eql 3 (Operand.tmp 55) (Operand.const (Value.int IntKind.i64 59)) 3, type := 4, pos := "do.go:271", after := #[{ on := 7, ground := Ground.data }], guard := none }) (v := ?_) rfl (by kernel_rfl) (by kernel_rfl) (by kernel_rfl) (fun _ _ _ h => h) (Or.inl ⟨by rfl, ?_⟩) (by assumption) ?_
        rotate_left
        · intro y hSw
          have q0 := hSw.cell 2; have q1 := hSw.cell 0
          go_simp
          try with_reducible rfl
        try simp only [Act.put, List.setIfInBounds_toArray, List.set_cons_zero, List.set_cons_succ]
        refine wpAnyH_take (i := 9) (oi := { dst := some 57, op := Op.move (Operand.tmp 56), type := 4, pos := "do.go:271", after := #[{ on := 8, ground := Ground.data }], guard := none }) (v := ?_) rfl (by kernel_rfl) (by kernel_rfl) (by kernel_rfl) (fun _ _ _ h => h) (Or.inl ⟨by rfl, ?_⟩) (by assumption) ?_
        rotate_left
        · intro y hSw
          have q0 := hSw.cell 2; have q1 := hSw.cell 0
          go_simp
          try with_reducible rfl
        try simp only [Act.put, List.setIfInBounds_toArray, List.set_cons_zero, List.set_cons_succ]
        refine wpAnyH_take (i := 10) (oi := { dst := some 58, op := Op.fieldAddr 73 (Operand.tmp 5) 0, type := 0, pos := "do.go:271", after := #[{ on := 9, ground := Ground.guard }], guard := some (9, false) }) (v := undef) rfl (by kernel_rfl) (by kernel_rfl) (by kernel_rfl) (fun _ _ _ h => h) (Or.inr ⟨by rfl, rfl⟩) (by assumption) ?_
        try simp only [Act.put, List.setIfInBounds_toArray, List.set_cons_zero, List.set_cons_succ]
        refine wpAnyH_take (i := 11) (oi := { dst := some 59, op := Op.load 3 (Operand.tmp 58), type := 3, pos := "do.go:271", after := #[{ on := 10, ground := Ground.data }, { on := 9, ground := Ground.guard }], guard := some (9, false) }) (v := undef) rfl (by kernel_rfl) (by kernel_rfl) (by kernel_rfl) (fun _ _ _ h => h) (Or.inr ⟨by rfl, rfl⟩) (by assumption) ?_
        try simp only [Act.put, List.setIfInBounds_toArray, List.set_cons_zero, List.set_cons_succ]
        refine wpAnyH_take (i := 12) (oi := { dst := some 60, op := Op.binOp BinOp.eql 3 (Operand.tmp 59) (Operand.const (Value.int IntKind.i64 60)) 3, type := 4, pos := "do.go:271", after := #[{ on := 11, ground := Ground.data }, { on := 9, ground := Ground.guard }], guard := some (9, false) }) (v := undef) rfl (by kernel_rfl) (by kernel_rfl) (by kernel_rfl) (fun _ _ _ h => h) (Or.inr ⟨by rfl, rfl⟩) (by assumption) ?_
        try simp only [Act.put, List.setIfInBounds_toArray, List.set_cons_zero, List.set_cons_succ]
        refine wpAnyH_take (i := 13) (oi := { dst := some 61, op := Op.pick (Operand.tmp 57) (Operand.const (Value.bool true)) (Operand.tmp 60), type := 4, pos := "do.go:271", after := #[{ on := 9, ground := Ground.data }, { on := 12, ground := Ground.data }], guard := none }) (v := ?_) rfl (by kernel_rfl) (by kernel_rfl) (by kernel_rfl) (fun _ _ _ h => h) (Or.inl ⟨by rfl, ?_⟩) (by assumption) ?_
        rotate_left
        · intro y hSw
          have q0 := hSw.cell 2; have q1 := hSw.cell 0
          go_simp
          try with_reducible rfl
        try simp only [Act.put, List.setIfInBounds_toArray, List.set_cons_zero, List.set_cons_succ]
        refine wpAnyH_ready (rs := [14]) (by kernel_rfl) (by simp) ?_
        refine AllReadyH.cons (o := { dst := some 62, op := Op.call { callee := Callee.value (Operand.func 101), args := #[Operand.tmp 51, Operand.tmp 53, Operand.tmp 61], argTypes := #[23, 3, 4] }, type := 23, pos := "do.go:271", after := #[{ on := 3, ground := Ground.data }, { on := 5, ground := Ground.data }, { on := 13, ground := Ground.data }, { on := 9, ground := Ground.chain }], guard := none }) rfl (fun K hK => ?_) AllReadyH.nil
        go_simp
        refine (hE.out _).mono ?_
        rintro r x1 ⟨rfl, rfl⟩
        go_wp2_with fail
        refine hK.out _ _ (hHeld) (fun hHeld => ?_)
        clear hK K
        try simp only [Act.put, List.setIfInBounds_toArray, List.set_cons_zero, List.set_cons_succ]
        refine wpAnyH_ready (rs := [15]) (by kernel_rfl) (by simp) ?_
        refine AllReadyH.cons (o := { dst := some 63, op := Op.call { callee := Callee.value (Operand.func 57), args := #[Operand.tmp 48, Operand.tmp 50, Operand.tmp 62], argTypes := #[44, 3, 23] }, type := 0, pos := "do.go:271", after := #[{ on := 0, ground := Ground.data }, { on := 2, ground := Ground.data }, { on := 14, ground := Ground.data }, { on := 14, ground := Ground.chain }], guard := none }) rfl (fun K hK => ?_) AllReadyH.nil
        go_simp
        refine (cq.out _ M3.out.bx).mono ?_
        rintro r x2 ⟨rfl, hw⟩
        have M4 : Hid (Mach x2 cb bb p g n cp ⟨C1, V, m.B, m.D⟩) := (by rw [hw]; exact hide (M3.out.state (M3.out.bx.set _) (Kept.set _ cb _ (by simp)) hWc.out))
        have K4 : Hid (Kept [cb, bb, g] w x2) := (by rw [hw]; exact hide (K3.out.trans (Kept.set _ cb _ (by simp))))
        have R4 : Hid (Box x2 (w.heap.size + 1) (cellsF F0)) := (by rw [hw]; exact hide (R3.out.far cb _ (by omega)))
        have L4 : Box x2 w.heap.size _ := (by rw [hw]; exact hHeld.far cb _ (by omega))
        clear hw
        go_wp2_with fail
        refine hK.out _ _ (L4) (fun hHeld => ?_)
        clear hK K
        try simp only [Act.put, List.setIfInBounds_toArray, List.set_cons_zero, List.set_cons_succ]
        refine wpAnyH_done (by kernel_rfl) ?_ _
        have hJ : J = false := by rw [← h67.out]; rfl
        subst hJ
        obtain ⟨r1, r2, r3, r4, r5⟩ := M4.out.bx.cells
        obtain ⟨l1, l2, l3, l4, l5⟩ := L4.cells
        obtain ⟨k1, k2, k3, k4, k5, k6⟩ := stRules cb
        have s37 := cSets.2.2.2.2.2.1
        have hst := fun C => (R4.out.last (b := cb) (by omega) F0 C).1
        have hld := hide fun C => (R4.out.last (b := cb) (by omega) F0 C).2
        have h67 := h67.out
        clear p0 p1 p2 p3 p4 p6 p7 p8 p9
        cases lk
        · go_wp2
          have fin := M4.out.done K4.out { C1 with lk := false } (M4.out.wc.link _) (w.heap.size + 1) F0 (by omega) hcc hbb hpp hgg h2
          exact bodyPost_ret (v := .tuple #[.agg (cellsF F0), .bool true]) (by simp [results, Tryz.results61, go_sem, zf1, zf5, hld.out]) rfl ⟨rfl, fin.1, fin.2⟩
        · go_wp2
          have fin := M4.out.done K4.out { C1 with lk := true } (M4.out.wc.link _) (w.heap.size + 1) F0 (by omega) hcc hbb hpp hgg h2
          exact bodyPost_ret (v := .tuple #[.agg (cellsF F0), .bool true]) (by simp [results, Tryz.results61, go_sem, zf1, zf5, hld.out]) rfl ⟨rfl, fin.1, fin.2⟩

      · go_wp2_with fail
        refine wp_region_held_drew (S := fun x => Box x w.heap.size #[.int .i64 o, .int .i64 (s : Int), .int .i64 (t : Int), .int .i64 (d : Int), .int .i64 (a : Int), .int .i64 i]) (by kernel_rfl) L3.out.drew (fun hHeld => ?_)
        replace M3 := hide M3.out.drew
        replace K3 := hide K3.out.drew
        replace R3 : Hid (Box w2.drew (w.heap.size + 1) (cellsF F0)) := hide R3.out.drew
        generalize w2.drew = xd at *
        clear t1 t2 t3 t4 t5 t6 t7 t8 t9
        refine wpAnyH_take (i := 0) (oi := { dst := some 48, op := Op.move (Operand.tmp 0), type := 44, pos := "do.go:271", after := #[], guard := none }) (v := ?_) rfl (by kernel_rfl) (by kernel_rfl) (by kernel_rfl) (fun _ _ _ h => h) (Or.inl ⟨by rfl, ?_⟩) (by assumption) ?_
        rotate_left
        · intro y hSw
          have q0 := hSw.cell 2; have q1 := hSw.cell 0
          go_simp
          try with_reducible rfl
        try simp only [Act.put, List.setIfInBounds_toArray, List.set_cons_zero, List.set_cons_succ]
        refine wpAnyH_take (i := 1) (oi := { dst := some 49, op := Op.fieldAddr 73 (Operand.tmp 5) 2, type := 0, pos := "do.go:271", after := #[], guard := none }) (v := ?_) rfl (by kernel_rfl) (by kernel_rfl) (by kernel_rfl) (fun _ _ _ h => h) (Or.inl ⟨by rfl, ?_⟩) (by assumption) ?_
        rotate_left
        · intro y hSw
          have q0 := hSw.cell 2; have q1 := hSw.cell 0
          go_simp
          try with_reducible rfl
        try simp only [Act.put, List.setIfInBounds_toArray, List.set_cons_zero, List.set_cons_succ]
        refine wpAnyH_take (i := 2) (oi := { dst := some 50, op := Op.load 3 (Operand.tmp 49), type := 3, pos := "do.go:271", after := #[{ on := 1, ground := Ground.data }], guard := none }) (v := ?_) rfl (by kernel_rfl) (by kernel_rfl) (by kernel_rfl) (fun _ _ _ h => h) (Or.inl ⟨by rfl, ?_⟩) (by assumption) ?_
        rotate_left
        · intro y hSw
          have q0 := hSw.cell 2; have q1 := hSw.cell 0
          go_simp
          try with_reducible rfl
        try simp only [Act.put, List.setIfInBounds_toArray, List.set_cons_zero, List.set_cons_succ]
        refine wpAnyH_take (i := 3) (oi := { dst := some 51, op := Op.move (Operand.tmp 12), type := 23, pos := "do.go:271", after := #[], guard := none }) (v := ?_) rfl (by kernel_rfl) (by kernel_rfl) (by kernel_rfl) (fun _ _ _ h => h) (Or.inl ⟨by rfl, ?_⟩) (by assumption) ?_
        rotate_left
        · intro y hSw
          have q0 := hSw.cell 2; have q1 := hSw.cell 0
          go_simp
          try with_reducible rfl
        try simp only [Act.put, List.setIfInBounds_toArray, List.set_cons_zero, List.set_cons_succ]
        refine wpAnyH_take (i := 4) (oi := { dst := some 52, op := Op.move (Operand.tmp 8), type := 3, pos := "do.go:271", after := #[], guard := none }) (v := ?_) rfl (by kernel_rfl) (by kernel_rfl) (by kernel_rfl) (fun _ _ _ h => h) (Or.inl ⟨by rfl, ?_⟩) (by assumption) ?_
        rotate_left
        · intro y hSw
          have q0 := hSw.cell 2; have q1 := hSw.cell 0
          go_simp
          try with_reducible rfl
        try simp only [Act.put, List.setIfInBounds_toArray, List.set_cons_zero, List.set_cons_succ]
        refine wpAnyH_take (i := 5) (oi := { dst := some 53, op := Op.binOp BinOp.mul 3 (Operand.const (Value.int IntKind.i64 8)) (Operand.tmp 52) 3, type := 3, pos := "do.go:271", after := #[{ on := 4, ground := Ground.data }], guard := none }) (v := ?_) rfl (by kernel_rfl) (by kernel_rfl) (by kernel_rfl) (fun _ _ _ h => h) (Or.inl ⟨by rfl, ?_⟩) (by assumption) ?_
        rotate_left
        · intro y hSw
          have q0 := hSw.cell 2; have q1 := hSw.cell 0
          go_simp
          try with_reducible rfl
        try simp only [Act.put, List.setIfInBounds_toArray, List.set_cons_zero, List.set_cons_succ]
        refine wpAnyH_take (i := 6) (oi := { dst := some 54, op := Op.fieldAddr 73 (Operand.tmp 5) 0, type := 0, pos := "do.go:271", after := #[], guard := none }) (v := ?_) rfl (by kernel_rfl) (by kernel_rfl) (by kernel_rfl) (fun _ _ _ h => h) (Or.inl ⟨by rfl, ?_⟩) (by assumption) ?_
        rotate_left
        · intro y hSw
          have q0 := hSw.cell 2; have q1 := hSw.cell 0
          go_simp
          try with_reducible rfl
        try simp only [Act.put, List.setIfInBounds_toArray, List.set_cons_zero, List.set_cons_succ]
        refine wpAnyH_take (i := 7) (oi := { dst := some 55, op := Op.load 3 (Operand.tmp 54), type := 3, pos := "do.go:271", after := #[{ on := 6, ground := Ground.data }], guard := none }) (v := ?_) rfl (by kernel_rfl) (by kernel_rfl) (by kernel_rfl) (fun _ _ _ h => h) (Or.inl ⟨by rfl, ?_⟩) (by assumption) ?_
        rotate_left
        · intro y hSw
          have q0 := hSw.cell 2; have q1 := hSw.cell 0
          go_simp
          try with_reducible rfl
        try simp only [Act.put, List.setIfInBounds_toArray, List.set_cons_zero, List.set_cons_succ]
        refine wpAnyH_take (i := 8) (oi := { dst := some 56, op := Op.binOp BinOp.eql 3 (Operand.tmp 55) (Operand.const (Value.int IntKind.i64 59)) 3, type := 4, pos := "do.go:271", after := #[{ on := 7, ground := Ground.data }], guard := none }) (v := ?_) rfl (by kernel_rfl) (by kernel_rfl) (by kernel_rfl) (fun _ _ _ h => h) (Or.inl ⟨by rfl, ?_⟩) (by assumption) ?_
        rotate_left
        · intro y hSw
          have q0 := hSw.cell 2; have q1 := hSw.cell 0
          go_simp
          try with_reducible rfl
        try simp only [Act.put, List.setIfInBounds_toArray, List.set_cons_zero, List.set_cons_succ]
        refine wpAnyH_take (i := 9) (oi := { dst := some 57, op := Op.move (Operand.tmp 56), type := 4, pos := "do.go:271", after := #[{ on := 8, ground := Ground.data }], guard := none }) (v := ?_) rfl (by kernel_rfl) (by kernel_rfl) (by kernel_rfl) (fun _ _ _ h => h) (Or.inl ⟨by rfl, ?_⟩) (by assumption) ?_
        rotate_left
        · intro y hSw
          have q0 := hSw.cell 2; have q1 := hSw.cell 0
          go_simp
          try with_reducible rfl
        try simp only [Act.put, List.setIfInBounds_toArray, List.set_cons_zero, List.set_cons_succ]
        refine wpAnyH_take (i := 10) (oi := { dst := some 58, op := Op.fieldAddr 73 (Operand.tmp 5) 0, type := 0, pos := "do.go:271", after := #[{ on := 9, ground := Ground.guard }], guard := some (9, false) }) (v := ?_) rfl (by kernel_rfl) (by kernel_rfl) (by kernel_rfl) (fun _ _ _ h => h) (Or.inl ⟨by rfl, ?_⟩) (by assumption) ?_
        rotate_left
        · intro y hSw
          have q0 := hSw.cell 2; have q1 := hSw.cell 0
          go_simp
          try with_reducible rfl
        try simp only [Act.put, List.setIfInBounds_toArray, List.set_cons_zero, List.set_cons_succ]
        refine wpAnyH_take (i := 11) (oi := { dst := some 59, op := Op.load 3 (Operand.tmp 58), type := 3, pos := "do.go:271", after := #[{ on := 10, ground := Ground.data }, { on := 9, ground := Ground.guard }], guard := some (9, false) }) (v := ?_) rfl (by kernel_rfl) (by kernel_rfl) (by kernel_rfl) (fun _ _ _ h => h) (Or.inl ⟨by rfl, ?_⟩) (by assumption) ?_
        rotate_left
        · intro y hSw
          have q0 := hSw.cell 2; have q1 := hSw.cell 0
          go_simp
          try with_reducible rfl
        try simp only [Act.put, List.setIfInBounds_toArray, List.set_cons_zero, List.set_cons_succ]
        refine wpAnyH_take (i := 12) (oi := { dst := some 60, op := Op.binOp BinOp.eql 3 (Operand.tmp 59) (Operand.const (Value.int IntKind.i64 60)) 3, type := 4, pos := "do.go:271", after := #[{ on := 11, ground := Ground.data }, { on := 9, ground := Ground.guard }], guard := some (9, false) }) (v := ?_) rfl (by kernel_rfl) (by kernel_rfl) (by kernel_rfl) (fun _ _ _ h => h) (Or.inl ⟨by rfl, ?_⟩) (by assumption) ?_
        rotate_left
        · intro y hSw
          have q0 := hSw.cell 2; have q1 := hSw.cell 0
          go_simp
          try with_reducible rfl
        try simp only [Act.put, List.setIfInBounds_toArray, List.set_cons_zero, List.set_cons_succ]
        refine wpAnyH_take (i := 13) (oi := { dst := some 61, op := Op.pick (Operand.tmp 57) (Operand.const (Value.bool true)) (Operand.tmp 60), type := 4, pos := "do.go:271", after := #[{ on := 9, ground := Ground.data }, { on := 12, ground := Ground.data }], guard := none }) (v := ?_) rfl (by kernel_rfl) (by kernel_rfl) (by kernel_rfl) (fun _ _ _ h => h) (Or.inl ⟨by rfl, ?_⟩) (by assumption) ?_
        rotate_left
        · intro y hSw
          have q0 := hSw.cell 2; have q1 := hSw.cell 0
          go_simp
          try with_reducible rfl
        try simp only [Act.put, List.setIfInBounds_toArray, List.set_cons_zero, List.set_cons_succ]
        refine wpAnyH_ready (rs := [14]) (by kernel_rfl) (by simp) ?_
        refine AllReadyH.cons (o := { dst := some 62, op := Op.call { callee := Callee.value (Operand.func 101), args := #[Operand.tmp 51, Operand.tmp 53, Operand.tmp 61], argTypes := #[23, 3, 4] }, type := 23, pos := "do.go:271", after := #[{ on := 3, ground := Ground.data }, { on := 5, ground := Ground.data }, { on := 13, ground := Ground.data }, { on := 9, ground := Ground.chain }], guard := none }) rfl (fun K hK => ?_) AllReadyH.nil
        go_simp
        refine (hE.out _).mono ?_
        rintro r x1 ⟨rfl, rfl⟩
        go_wp2_with fail
        refine hK.out _ _ (hHeld) (fun hHeld => ?_)
        clear hK K
        try simp only [Act.put, List.setIfInBounds_toArray, List.set_cons_zero, List.set_cons_succ]
        refine wpAnyH_ready (rs := [15]) (by kernel_rfl) (by simp) ?_
        refine AllReadyH.cons (o := { dst := some 63, op := Op.call { callee := Callee.value (Operand.func 57), args := #[Operand.tmp 48, Operand.tmp 50, Operand.tmp 62], argTypes := #[44, 3, 23] }, type := 0, pos := "do.go:271", after := #[{ on := 0, ground := Ground.data }, { on := 2, ground := Ground.data }, { on := 14, ground := Ground.data }, { on := 14, ground := Ground.chain }], guard := none }) rfl (fun K hK => ?_) AllReadyH.nil
        go_simp
        refine (cq.out _ M3.out.bx).mono ?_
        rintro r x2 ⟨rfl, hw⟩
        have M4 : Hid (Mach x2 cb bb p g n cp ⟨C1, V, m.B, m.D⟩) := (by rw [hw]; exact hide (M3.out.state (M3.out.bx.set _) (Kept.set _ cb _ (by simp)) hWc.out))
        have K4 : Hid (Kept [cb, bb, g] w x2) := (by rw [hw]; exact hide (K3.out.trans (Kept.set _ cb _ (by simp))))
        have R4 : Hid (Box x2 (w.heap.size + 1) (cellsF F0)) := (by rw [hw]; exact hide (R3.out.far cb _ (by omega)))
        have L4 : Box x2 w.heap.size _ := (by rw [hw]; exact hHeld.far cb _ (by omega))
        clear hw
        go_wp2_with fail
        refine hK.out _ _ (L4) (fun hHeld => ?_)
        clear hK K
        try simp only [Act.put, List.setIfInBounds_toArray, List.set_cons_zero, List.set_cons_succ]
        refine wpAnyH_done (by kernel_rfl) ?_ _
        obtain ⟨r1, r2, r3, r4, r5⟩ := M4.out.bx.cells
        obtain ⟨l1, l2, l3, l4, l5⟩ := L4.cells
        obtain ⟨k1, k2, k3, k4, k5, k6⟩ := stRules cb
        have s37 := cSets.2.2.2.2.2.1
        have hst := fun C => (R4.out.last (b := cb) (by omega) F0 C).1
        have hld := hide fun C => (R4.out.last (b := cb) (by omega) F0 C).2
        have h67 := h67.out
        clear p0 p1 p2 p3 p4 p6 p7 p8 p9
        cases lk
        · go_wp2
          have fin := M4.out.done K4.out { C1 with lk := J } (M4.out.wc.link _) (w.heap.size + 1) F0 (by omega) hcc hbb hpp hgg h2
          exact bodyPost_ret (v := .tuple #[.agg (cellsF F0), .bool true]) (by simp [results, Tryz.results61, go_sem, zf1, zf5, hld.out]) rfl ⟨rfl, fin.1, fin.2⟩
        · go_wp2
          have fin := M4.out.done K4.out { C1 with lk := true } (M4.out.wc.link _) (w.heap.size + 1) F0 (by omega) hcc hbb hpp hgg h2
          exact bodyPost_ret (v := .tuple #[.agg (cellsF F0), .bool true]) (by simp [results, Tryz.results61, go_sem, zf1, zf5, hld.out]) rfl ⟨rfl, fin.1, fin.2⟩


end Go.Proofs.YtmegghgjllbamaaGreatDoor

/- Layer 13: contract of the program's stores. -/
namespace Go.Proofs.YtmegghgjllbamaaGreatDoor
open Go.RowKit
set_option linter.unusedVariables false
set_option maxRecDepth 100000
set_option linter.unusedSimpArgs false

theorem stA_no {n : Nat} {v : Dv} {B : Nat → Nat} {D : Nat → Bool} {a s m E : Int} {V : Dv} {B' : Nat → Nat} {D' : Nat → Bool} (h : stA n v B D a s m = ⟨E, V, B', D'⟩) (hE : ¬ E = 0) : v = V ∧ B = B' ∧ D = D' := by
  have fin : ∀ (E1 : Int) (q : Dv), finW v B D E1 q = ⟨E, V, B', D'⟩ → v = V ∧ B = B' ∧ D = D' := by
    intro E1 q h
    unfold finW at h
    split at h
    · injection h with h1; exact absurd h1.symm hE
    · injection h with h1 h2 h3 h4; exact ⟨h2, h3, h4⟩
  unfold stA at h
  split at h
  · split at h
    · unfold wrA at h
      repeat' split at h
      all_goals exact fin _ _ h
    · injection h with h1 h2 h3 h4; exact ⟨h2, h3, h4⟩
  · split at h
    · injection h with h1; exact absurd h1.symm hE
    · injection h with h1 h2 h3 h4; exact ⟨h2, h3, h4⟩

theorem Box.last0 {x : World} {r : Nat} {f : Ft} (h : Box x r (cellsF f)) (q : Ft) :
    (storeCells ⟨r, 0, none⟩ (cellsF q).toList 0).run Tryz.prog x = .ok () (x.setRow r (cellsF q)) ∧ (loadCellsFrom ⟨r, 0, none⟩ 0 NF #[]).run Tryz.prog (x.setRow r (cellsF q)) = .ok (cellsF q) (x.setRow r (cellsF q)) := by
  refine ⟨?_, (h.set (cellsF q)).loads 0 NF rfl rfl⟩
  have := store_part x r 0 (cellsF q) h.1 (by rw [h.2.1]; rfl) rfl
  rw [h.2.1] at this
  exact this

set_option maxHeartbeats 1500000 in
set_option maxRecDepth 100000 in
theorem storeC_raw {w : World} {cb bb p g n cp : Nat} {m : Mc} (h : Mach w cb bb p g n cp m) (o : Int) (s t d a : Nat) (i : Int) (hs : s < 32) (ht : t < 32) (ho : o = 64 ∨ o = 65 ∨ o = 66 ∨ o = 68) (A : Int) (Z : Int) (P : Int) (F : Ft) (K : Bool)
    (hz : szV o = Z) (hA : IntKind.u32.wrap (m.c.R s + IntKind.u32.wrap i) = A)
    (cpl : ∀ x, Box x cb (cellsC m.c) → Calls Tryz.prog 51 #[.pointer (some ⟨cb, 0, none⟩), .int .u32 A, .int .i64 Z, .bool true] x fun r w' => r = .returned (.tuple #[.int .u32 P, .agg (cellsF F), .bool K]) ∧ Below x.heap.size x w')
    (hPw : Cp.W32 P) (E : Int) (V : Dv) (B' : Nat → Nat) (D' : Nat → Bool) (hL : stA n m.v m.B m.D P Z (m.c.R t) = ⟨E, V, B', D'⟩) (lk : Bool) (hlk : m.c.lk = lk)
    (C0 C1 : Cs) (hC0 : putC m.c t 0 = C0) (hC1 : putC m.c t 1 = C1)
    (O : Out) (hO : (K = false ∧ O = bad m F) ∨ (K = true ∧ o = 68 ∧ lk = false ∧ O = nop { m with c := C0 }) ∨
      (K = true ∧ (o == 68) = false ∧ (((E == 0) = false ∧ O = bad m (ftC 7)) ∨ (E = 0 ∧ O = nop ⟨m.c, V, B', D'⟩))) ∨
      (K = true ∧ o = 68 ∧ lk = true ∧ (((E == 0) = false ∧ O = bad m (ftC 7)) ∨ (E = 0 ∧ O = nop ⟨{ C1 with lk := false }, V, B', D'⟩)))) :
    Calls Tryz.prog 62 #[.pointer (some ⟨cb, 0, none⟩), .pointer (some ⟨bb, 0, none⟩), .agg #[.int .i64 o, .int .i64 (s : Int), .int .i64 (t : Int), .int .i64 (d : Int), .int .i64 (a : Int), .int .i64 i]] w fun r w' =>
      r = .returned (.tuple #[.agg (cellsF O.f), .bool O.k]) ∧ Mach w' cb bb p g n cp O.m ∧ Kept [cb, bb, g] w w' := by
  obtain ⟨t1, t2, t3, t4, t5, t6, t7, t8, t9⟩ := rowRules
  obtain ⟨zf1, zf2, zf3, zf4, zf5, zf6, zf7, zf8, zf9, zf10⟩ := ftRules
  obtain ⟨zs1, zs2⟩ := ftMore
  obtain ⟨p0, p1, p2, p3, p4, p5, p6, p7, p8, p9⟩ := cParts
  have cz := hide (sizeOf_any o (by omega))
  rw [hz] at cz
  clear hz
  have gA := grow w (.cells #[.int .i64 o, .int .i64 (s : Int), .int .i64 (t : Int), .int .i64 (d : Int), .int .i64 (a : Int), .int .i64 i] 73)
  have gB := grow (w.alloc (.cells #[.int .i64 o, .int .i64 (s : Int), .int .i64 (t : Int), .int .i64 (d : Int), .int .i64 (a : Int), .int .i64 i] 73)) (.cells (cellsF F0) 75)
  have M0 := hide ((h.on gA).on gB)
  have L0 := hide ((Box.new w #[.int .i64 o, .int .i64 (s : Int), .int .i64 (t : Int), .int .i64 (d : Int), .int .i64 (a : Int), .int .i64 i] 73).on gB)
  have R0 := hide (Box.new (w.alloc (.cells #[.int .i64 o, .int .i64 (s : Int), .int .i64 (t : Int), .int .i64 (d : Int), .int .i64 (a : Int), .int .i64 i] 73)) (cellsF F0) 75)
  have BX := hide (onto gA (Nat.le_refl _) gB)
  have si0 : (0 : Int) ≤ (s : Int) := by omega
  have si : (s : Int) < 32 := by omega
  have ti0 : (0 : Int) ≤ (t : Int) := by omega
  have ti : (t : Int) < 32 := by omega
  replace cpl := hide cpl
  replace hO := hide hO
  have cq0 := hide fun x (hx : Box x cb (cellsC m.c)) => putReg_any hx t ht 0
  have cq1 := hide fun x (hx : Box x cb (cellsC m.c)) => putReg_any hx t ht 1
  have w0 := hide (putC_w h.wc t (v := 0) (by constructor <;> omega))
  have w1 := hide (putC_w h.wc t (v := 1) (by constructor <;> omega))
  rw [hC0] at cq0 w0
  rw [hC1] at cq1 w1
  clear hC0 hC1
  have hbb : bb < w.heap.size := h.bus.lt
  have hgg : g < w.heap.size := h.bus.m.zg
  have hcc : cb < w.heap.size := h.bx.2.2
  have hpp : p < w.heap.size := h.bus.m.zp
  have h2 : 2 ≤ w.heap.size := h.tb.n
  clear gA gB h
  go_enter Tryz.func62, Tryz.ntmps62
  go_wp2_with fail
  refine (cz.out _).mono ?_
  rintro r w1 ⟨rfl, rfl⟩
  go_wp2_with fail
  rw [show (w.alloc (.cells #[.int .i64 o, .int .i64 (s : Int), .int .i64 (t : Int), .int .i64 (d : Int), .int .i64 (a : Int), .int .i64 i] 73)).heap.size = w.heap.size + 1 by simp] at R0
  generalize (w.alloc (.cells #[.int .i64 o, .int .i64 (s : Int), .int .i64 (t : Int), .int .i64 (d : Int), .int .i64 (a : Int), .int .i64 i] 73)).alloc (.cells (cellsF F0) 75) = X0 at *
  have hLe : w.heap.size < X0.heap.size := L0.out.2.2
  have hRe : w.heap.size + 1 < X0.heap.size := R0.out.2.2
  go_cut [9, 10, 11] from 17 (fun s9 s10 s11 x => ∃ LB, s9 = .int .u32 P ∧ s10 = .pointer (some ⟨LB, 0, none⟩) ∧ s11 = .bool K ∧ Hid (Box x LB (cellsF F) ∧ X0.heap.size ≤ LB ∧ Below X0.heap.size X0 x))
  case first =>
    clear t1 t2 t3 t4 t5 t6 t7 t8 t9
    refine wp_region_held_drew (S := fun x => Below X0.heap.size X0 x) (by kernel_rfl) ((Below.refl _ _).drew) (fun hHeld => ?_)
    generalize X0.drew = xd at *
    refine wpAnyH_take (i := 0) (oi := { dst := some 16, op := Op.move (Operand.tmp 0), type := 44, pos := "do.go:278", after := #[], guard := none }) (v := ?_) rfl (by kernel_rfl) (by kernel_rfl) (by kernel_rfl) (fun _ _ _ h => h) (Or.inl ⟨by rfl, ?_⟩) (by assumption) ?_
    rotate_left
    · intro y hSw
      have q0 := (L0.out.on hSw).cell 1; have q1 := (L0.out.on hSw).cell 5; have q2 := (M0.out.bx.on hSw).cell (3 + s)
      go_simp
      try with_reducible rfl
    try simp only [Act.put, List.setIfInBounds_toArray, List.set_cons_zero, List.set_cons_succ]
    refine wpAnyH_take (i := 1) (oi := { dst := some 17, op := Op.move (Operand.tmp 0), type := 44, pos := "do.go:278", after := #[], guard := none }) (v := ?_) rfl (by kernel_rfl) (by kernel_rfl) (by kernel_rfl) (fun _ _ _ h => h) (Or.inl ⟨by rfl, ?_⟩) (by assumption) ?_
    rotate_left
    · intro y hSw
      have q0 := (L0.out.on hSw).cell 1; have q1 := (L0.out.on hSw).cell 5; have q2 := (M0.out.bx.on hSw).cell (3 + s)
      go_simp
      try with_reducible rfl
    try simp only [Act.put, List.setIfInBounds_toArray, List.set_cons_zero, List.set_cons_succ]
    refine wpAnyH_take (i := 2) (oi := { dst := some 18, op := Op.fieldAddr 73 (Operand.tmp 5) 1, type := 0, pos := "do.go:278", after := #[], guard := none }) (v := ?_) rfl (by kernel_rfl) (by kernel_rfl) (by kernel_rfl) (fun _ _ _ h => h) (Or.inl ⟨by rfl, ?_⟩) (by assumption) ?_
    rotate_left
    · intro y hSw
      have q0 := (L0.out.on hSw).cell 1; have q1 := (L0.out.on hSw).cell 5; have q2 := (M0.out.bx.on hSw).cell (3 + s)
      go_simp
      try with_reducible rfl
    try simp only [Act.put, List.setIfInBounds_toArray, List.set_cons_zero, List.set_cons_succ]
    refine wpAnyH_take (i := 3) (oi := { dst := some 19, op := Op.load 3 (Operand.tmp 18), type := 3, pos := "do.go:278", after := #[{ on := 2, ground := Ground.data }], guard := none }) (v := ?_) rfl (by kernel_rfl) (by kernel_rfl) (by kernel_rfl) (fun _ _ _ h => h) (Or.inl ⟨by rfl, ?_⟩) (by assumption) ?_
    rotate_left
    · intro y hSw
      have q0 := (L0.out.on hSw).cell 1; have q1 := (L0.out.on hSw).cell 5; have q2 := (M0.out.bx.on hSw).cell (3 + s)
      go_simp
      try with_reducible rfl
    try simp only [Act.put, List.setIfInBounds_toArray, List.set_cons_zero, List.set_cons_succ]
    refine wpAnyH_take (i := 4) (oi := { dst := some 20, op := Op.nilCheck (Operand.tmp 17), type := 0, pos := "do.go:278", after := #[{ on := 1, ground := Ground.data }], guard := none }) (v := ?_) rfl (by kernel_rfl) (by kernel_rfl) (by kernel_rfl) (fun _ _ _ h => h) (Or.inl ⟨by rfl, ?_⟩) (by assumption) ?_
    rotate_left
    · intro y hSw
      have q0 := (L0.out.on hSw).cell 1; have q1 := (L0.out.on hSw).cell 5; have q2 := (M0.out.bx.on hSw).cell (3 + s)
      go_simp
      try with_reducible rfl
    try simp only [Act.put, List.setIfInBounds_toArray, List.set_cons_zero, List.set_cons_succ]
    refine wpAnyH_take (i := 5) (oi := { dst := some 21, op := Op.fieldAddr 40 (Operand.tmp 20) 3, type := 0, pos := "do.go:278", after := #[{ on := 4, ground := Ground.data }], guard := none }) (v := ?_) rfl (by kernel_rfl) (by kernel_rfl) (by kernel_rfl) (fun _ _ _ h => h) (Or.inl ⟨by rfl, ?_⟩) (by assumption) ?_
    rotate_left
    · intro y hSw
      have q0 := (L0.out.on hSw).cell 1; have q1 := (L0.out.on hSw).cell 5; have q2 := (M0.out.bx.on hSw).cell (3 + s)
      go_simp
      try with_reducible rfl
    try simp only [Act.put, List.setIfInBounds_toArray, List.set_cons_zero, List.set_cons_succ]
    refine wpAnyH_take (i := 6) (oi := { dst := some 22, op := Op.indexAddr 24 (Operand.tmp 21) (Operand.tmp 19), type := 0, pos := "do.go:278", after := #[{ on := 5, ground := Ground.data }, { on := 3, ground := Ground.data }], guard := none }) (v := ?_) rfl (by kernel_rfl) (by kernel_rfl) (by kernel_rfl) (fun _ _ _ h => h) (Or.inl ⟨by rfl, ?_⟩) (by assumption) ?_
    rotate_left
    · intro y hSw
      have q0 := (L0.out.on hSw).cell 1; have q1 := (L0.out.on hSw).cell 5; have q2 := (M0.out.bx.on hSw).cell (3 + s)
      go_simp
      try with_reducible rfl
    try simp only [Act.put, List.setIfInBounds_toArray, List.set_cons_zero, List.set_cons_succ]
    refine wpAnyH_take (i := 7) (oi := { dst := some 23, op := Op.load 23 (Operand.tmp 22), type := 23, pos := "do.go:278", after := #[{ on := 6, ground := Ground.data }], guard := none }) (v := ?_) rfl (by kernel_rfl) (by kernel_rfl) (by kernel_rfl) (fun _ _ _ h => h) (Or.inl ⟨by rfl, ?_⟩) (by assumption) ?_
    rotate_left
    · intro y hSw
      have q0 := (L0.out.on hSw).cell 1; have q1 := (L0.out.on hSw).cell 5; have q2 := (M0.out.bx.on hSw).cell (3 + s)
      go_simp
      try with_reducible rfl
    try simp only [Act.put, List.setIfInBounds_toArray, List.set_cons_zero, List.set_cons_succ]
    refine wpAnyH_take (i := 8) (oi := { dst := some 24, op := Op.fieldAddr 73 (Operand.tmp 5) 5, type := 0, pos := "do.go:278", after := #[], guard := none }) (v := ?_) rfl (by kernel_rfl) (by kernel_rfl) (by kernel_rfl) (fun _ _ _ h => h) (Or.inl ⟨by rfl, ?_⟩) (by assumption) ?_
    rotate_left
    · intro y hSw
      have q0 := (L0.out.on hSw).cell 1; have q1 := (L0.out.on hSw).cell 5; have q2 := (M0.out.bx.on hSw).cell (3 + s)
      go_simp
      try with_reducible rfl
    try simp only [Act.put, List.setIfInBounds_toArray, List.set_cons_zero, List.set_cons_succ]
    refine wpAnyH_take (i := 9) (oi := { dst := some 25, op := Op.load 3 (Operand.tmp 24), type := 3, pos := "do.go:278", after := #[{ on := 8, ground := Ground.data }], guard := none }) (v := ?_) rfl (by kernel_rfl) (by kernel_rfl) (by kernel_rfl) (fun _ _ _ h => h) (Or.inl ⟨by rfl, ?_⟩) (by assumption) ?_
    rotate_left
    · intro y hSw
      have q0 := (L0.out.on hSw).cell 1; have q1 := (L0.out.on hSw).cell 5; have q2 := (M0.out.bx.on hSw).cell (3 + s)
      go_simp
      try with_reducible rfl
    try simp only [Act.put, List.setIfInBounds_toArray, List.set_cons_zero, List.set_cons_succ]
    refine wpAnyH_take (i := 10) (oi := { dst := some 26, op := Op.convert 3 23 (Operand.tmp 25), type := 23, pos := "do.go:278", after := #[{ on := 9, ground := Ground.data }], guard := none }) (v := ?_) rfl (by kernel_rfl) (by kernel_rfl) (by kernel_rfl) (fun _ _ _ h => h) (Or.inl ⟨by rfl, ?_⟩) (by assumption) ?_
    rotate_left
    · intro y hSw
      have q0 := (L0.out.on hSw).cell 1; have q1 := (L0.out.on hSw).cell 5; have q2 := (M0.out.bx.on hSw).cell (3 + s)
      go_simp
      try with_reducible rfl
    try simp only [Act.put, List.setIfInBounds_toArray, List.set_cons_zero, List.set_cons_succ]
    refine wpAnyH_take (i := 11) (oi := { dst := some 27, op := Op.binOp BinOp.add 23 (Operand.tmp 23) (Operand.tmp 26) 23, type := 23, pos := "do.go:278", after := #[{ on := 7, ground := Ground.data }, { on := 10, ground := Ground.data }], guard := none }) (v := ?_) rfl (by kernel_rfl) (by kernel_rfl) (by kernel_rfl) (fun _ _ _ h => h) (Or.inl ⟨by rfl, ?_⟩) (by assumption) ?_
    rotate_left
    · intro y hSw
      have q0 := (L0.out.on hSw).cell 1; have q1 := (L0.out.on hSw).cell 5; have q2 := (M0.out.bx.on hSw).cell (3 + s)
      go_simp
      try with_reducible rfl
    try simp only [Act.put, List.setIfInBounds_toArray, List.set_cons_zero, List.set_cons_succ]
    refine wpAnyH_take (i := 12) (oi := { dst := some 28, op := Op.move (Operand.tmp 8), type := 3, pos := "do.go:278", after := #[], guard := none }) (v := ?_) rfl (by kernel_rfl) (by kernel_rfl) (by kernel_rfl) (fun _ _ _ h => h) (Or.inl ⟨by rfl, ?_⟩) (by assumption) ?_
    rotate_left
    · intro y hSw
      have q0 := (L0.out.on hSw).cell 1; have q1 := (L0.out.on hSw).cell 5; have q2 := (M0.out.bx.on hSw).cell (3 + s)
      go_simp
      try with_reducible rfl
    try simp only [Act.put, List.setIfInBounds_toArray, List.set_cons_zero, List.set_cons_succ]
    refine wpAnyH_ready (rs := [13, 18]) (by kernel_rfl) (by simp) ?_
    refine AllReadyH.cons (o := { dst := some 29, op := Op.call { callee := Callee.value (Operand.func 51), args := #[Operand.tmp 16, Operand.tmp 27, Operand.tmp 28, Operand.const (Value.bool true)], argTypes := #[44, 23, 3, 4] }, type := 122, pos := "do.go:278", after := #[{ on := 0, ground := Ground.data }, { on := 11, ground := Ground.data }, { on := 12, ground := Ground.data }], guard := none }) rfl (fun K hK => ?_) ?_
    · go_simp
      refine (cpl.out _ (M0.out.bx.on hHeld)).mono ?_
      rintro r x1 ⟨rfl, hn1⟩
      go_wp2_with fail
      refine hK.out _ _ (onto hHeld (Nat.le_refl _) hn1) (fun hHeld => ?_)
      clear hK K
      try simp only [Act.put, List.setIfInBounds_toArray, List.set_cons_zero, List.set_cons_succ]
      clear hn1
      refine wpAnyH_take (i := 14) (oi := { dst := some 15, op := Op.move (Operand.tmp 29), type := 122, pos := "do.go:278", after := #[{ on := 13, ground := Ground.data }], guard := none }) (v := ?_) rfl (by kernel_rfl) (by kernel_rfl) (by kernel_rfl) (fun _ _ _ h => h) (Or.inl ⟨by rfl, ?_⟩) (by assumption) ?_
      rotate_left
      · intro y hSw
        have q0 := (L0.out.on hSw).cell 1; have q1 := (L0.out.on hSw).cell 5; have q2 := (M0.out.bx.on hSw).cell (3 + s)
        go_simp
        try with_reducible rfl
      try simp only [Act.put, List.setIfInBounds_toArray, List.set_cons_zero, List.set_cons_succ]
      refine wpAnyH_take (i := 15) (oi := { dst := some 30, op := Op.extract (Operand.tmp 15) 0, type := 23, pos := "do.go:278", after := #[{ on := 14, ground := Ground.data }], guard := none }) (v := ?_) rfl (by kernel_rfl) (by kernel_rfl) (by kernel_rfl) (fun _ _ _ h => h) (Or.inl ⟨by rfl, ?_⟩) (by assumption) ?_
      rotate_left
      · intro y hSw
        have q0 := (L0.out.on hSw).cell 1; have q1 := (L0.out.on hSw).cell 5; have q2 := (M0.out.bx.on hSw).cell (3 + s)
        go_simp
        try with_reducible rfl
      try simp only [Act.put, List.setIfInBounds_toArray, List.set_cons_zero, List.set_cons_succ]
      refine wpAnyH_take (i := 16) (oi := { dst := some 31, op := Op.extract (Operand.tmp 15) 1, type := 75, pos := "do.go:278", after := #[{ on := 14, ground := Ground.data }, { on := 19, ground := Ground.gcOnly Departure.lateStores }], guard := none }) (v := ?_) rfl (by kernel_rfl) (by kernel_rfl) (by kernel_rfl) (fun _ _ _ h => h) (Or.inl ⟨by rfl, ?_⟩) (by assumption) ?_
      rotate_left
      · intro y hSw
        have q0 := (L0.out.on hSw).cell 1; have q1 := (L0.out.on hSw).cell 5; have q2 := (M0.out.bx.on hSw).cell (3 + s)
        go_simp
        try with_reducible rfl
      try simp only [Act.put, List.setIfInBounds_toArray, List.set_cons_zero, List.set_cons_succ]
      refine wpAnyH_take (i := 17) (oi := { dst := some 32, op := Op.extract (Operand.tmp 15) 2, type := 4, pos := "do.go:278", after := #[{ on := 14, ground := Ground.data }, { on := 20, ground := Ground.gcOnly Departure.lateStores }], guard := none }) (v := ?_) rfl (by kernel_rfl) (by kernel_rfl) (by kernel_rfl) (fun _ _ _ h => h) (Or.inl ⟨by rfl, ?_⟩) (by assumption) ?_
      rotate_left
      · intro y hSw
        have q0 := (L0.out.on hSw).cell 1; have q1 := (L0.out.on hSw).cell 5; have q2 := (M0.out.bx.on hSw).cell (3 + s)
        go_simp
        try with_reducible rfl
      try simp only [Act.put, List.setIfInBounds_toArray, List.set_cons_zero, List.set_cons_succ]
      refine wpAnyH_ready (rs := [18]) (by kernel_rfl) (by simp) ?_
      refine AllReadyH.cons (o := { dst := some 10, op := Op.alloc 75, type := 0, pos := "do.go:278", after := #[], guard := none }) rfl (fun K hK => ?_) AllReadyH.nil
      have gA := grow x1 (.cells (cellsF F0) 75)
      have RB := Box.new x1 (cellsF F0) 75
      have hLB : X0.heap.size ≤ x1.heap.size := hHeld.size
      go_simp
      refine hK.out _ _ (onto hHeld (Nat.le_refl _) gA) (fun hHeld => ?_)
      clear hK K
      try simp only [Act.put, List.setIfInBounds_toArray, List.set_cons_zero, List.set_cons_succ]
      clear gA
      generalize x1.alloc (.cells (cellsF F0) 75) = x2 at *
      generalize x1.heap.size = LB at *
      refine wpAnyH_take (i := 19) (oi := { dst := some 9, op := Op.assign (Operand.tmp 30), type := 23, pos := "do.go:278", after := #[{ on := 15, ground := Ground.data }, { on := 13, ground := Ground.chain }, { on := 0, ground := Ground.phase }, { on := 1, ground := Ground.phase }, { on := 2, ground := Ground.phase }, { on := 3, ground := Ground.phase }, { on := 4, ground := Ground.phase }, { on := 5, ground := Ground.phase }, { on := 6, ground := Ground.phase }, { on := 7, ground := Ground.phase }, { on := 8, ground := Ground.phase }, { on := 9, ground := Ground.phase }, { on := 10, ground := Ground.phase }, { on := 11, ground := Ground.phase }, { on := 12, ground := Ground.phase }, { on := 13, ground := Ground.phase }, { on := 14, ground := Ground.phase }, { on := 15, ground := Ground.phase }, { on := 16, ground := Ground.textOnly Departure.lateStores }, { on := 17, ground := Ground.textOnly Departure.lateStores }, { on := 18, ground := Ground.phase }], guard := none }) (v := ?_) rfl (by kernel_rfl) (by kernel_rfl) (by kernel_rfl) (fun _ _ _ h => h) (Or.inl ⟨by rfl, ?_⟩) (by assumption) ?_
      rotate_left
      · intro y hSw
        have q0 := (L0.out.on hSw).cell 1; have q1 := (L0.out.on hSw).cell 5; have q2 := (M0.out.bx.on hSw).cell (3 + s)
        go_simp
        try with_reducible rfl
      try simp only [Act.put, List.setIfInBounds_toArray, List.set_cons_zero, List.set_cons_succ]
      refine wpAnyH_ready (rs := [20]) (by kernel_rfl) (by simp) ?_
      refine AllReadyH.cons (o := { dst := none, op := Op.store 75 (Operand.tmp 10) (Operand.tmp 31), type := 0, pos := "do.go:278", after := #[{ on := 18, ground := Ground.data }, { on := 16, ground := Ground.data }, { on := 19, ground := Ground.chain }, { on := 0, ground := Ground.phase }, { on := 1, ground := Ground.phase }, { on := 2, ground := Ground.phase }, { on := 3, ground := Ground.phase }, { on := 4, ground := Ground.phase }, { on := 5, ground := Ground.phase }, { on := 6, ground := Ground.phase }, { on := 7, ground := Ground.phase }, { on := 8, ground := Ground.phase }, { on := 9, ground := Ground.phase }, { on := 10, ground := Ground.phase }, { on := 11, ground := Ground.phase }, { on := 12, ground := Ground.phase }, { on := 13, ground := Ground.phase }, { on := 14, ground := Ground.phase }, { on := 15, ground := Ground.phase }, { on := 16, ground := Ground.phase }, { on := 17, ground := Ground.textOnly Departure.lateStores }, { on := 18, ground := Ground.phase }, { on := 19, ground := Ground.phase }], guard := none }) rfl (fun K hK => ?_) AllReadyH.nil
      have hst := store_part x2 LB 0 (cellsF F) RB.1 (by rw [RB.2.1]; rfl) rfl
      rw [RB.2.1, zf6] at hst
      have RC := RB.set (cellsF F)
      go_simp
      refine hK.out _ _ (below_setRow hHeld hLB _) (fun hHeld => ?_)
      clear hK K
      try simp only [Act.put, List.setIfInBounds_toArray, List.set_cons_zero, List.set_cons_succ]
      clear hst RB
      generalize x2.setRow LB (cellsF F) = x3 at *
      refine wpAnyH_take (i := 21) (oi := { dst := some 11, op := Op.assign (Operand.tmp 32), type := 4, pos := "do.go:278", after := #[{ on := 17, ground := Ground.data }, { on := 20, ground := Ground.chain }, { on := 0, ground := Ground.phase }, { on := 1, ground := Ground.phase }, { on := 2, ground := Ground.phase }, { on := 3, ground := Ground.phase }, { on := 4, ground := Ground.phase }, { on := 5, ground := Ground.phase }, { on := 6, ground := Ground.phase }, { on := 7, ground := Ground.phase }, { on := 8, ground := Ground.phase }, { on := 9, ground := Ground.phase }, { on := 10, ground := Ground.phase }, { on := 11, ground := Ground.phase }, { on := 12, ground := Ground.phase }, { on := 13, ground := Ground.phase }, { on := 14, ground := Ground.phase }, { on := 15, ground := Ground.phase }, { on := 16, ground := Ground.phase }, { on := 17, ground := Ground.phase }, { on := 18, ground := Ground.phase }, { on := 19, ground := Ground.phase }, { on := 20, ground := Ground.phase }], guard := none }) (v := ?_) rfl (by kernel_rfl) (by kernel_rfl) (by kernel_rfl) (fun _ _ _ h => h) (Or.inl ⟨by rfl, ?_⟩) (by assumption) ?_
      rotate_left
      · intro y hSw
        have q0 := (L0.out.on hSw).cell 1; have q1 := (L0.out.on hSw).cell 5; have q2 := (M0.out.bx.on hSw).cell (3 + s)
        go_simp
        try with_reducible rfl
      try simp only [Act.put, List.setIfInBounds_toArray, List.set_cons_zero, List.set_cons_succ]
      refine wpAnyH_done (by kernel_rfl) ?_ _
      go_wp2_with fail
      go_meet
      case rel => exact ⟨LB, rfl, rfl, rfl, hide ⟨RC, hLB, hHeld⟩⟩
    refine AllReadyH.cons (o := { dst := some 10, op := Op.alloc 75, type := 0, pos := "do.go:278", after := #[], guard := none }) rfl (fun K hK => ?_) AllReadyH.nil
    have gA := grow xd (.cells (cellsF F0) 75)
    have RB := Box.new xd (cellsF F0) 75
    have hLB : X0.heap.size ≤ xd.heap.size := hHeld.size
    go_simp
    refine hK.out _ _ (onto hHeld (Nat.le_refl _) gA) (fun hHeld => ?_)
    clear hK K
    try simp only [Act.put, List.setIfInBounds_toArray, List.set_cons_zero, List.set_cons_succ]
    clear gA
    generalize xd.alloc (.cells (cellsF F0) 75) = x1 at *
    generalize xd.heap.size = LB at *
    refine wpAnyH_ready (rs := [13]) (by kernel_rfl) (by simp) ?_
    refine AllReadyH.cons (o := { dst := some 29, op := Op.call { callee := Callee.value (Operand.func 51), args := #[Operand.tmp 16, Operand.tmp 27, Operand.tmp 28, Operand.const (Value.bool true)], argTypes := #[44, 23, 3, 4] }, type := 122, pos := "do.go:278", after := #[{ on := 0, ground := Ground.data }, { on := 11, ground := Ground.data }, { on := 12, ground := Ground.data }], guard := none }) rfl (fun K hK => ?_) AllReadyH.nil
    go_simp
    refine (cpl.out _ (M0.out.bx.on hHeld)).mono ?_
    rintro r x2 ⟨rfl, hn1⟩
    replace RB := RB.on hn1
    go_wp2_with fail
    refine hK.out _ _ (onto hHeld (Nat.le_refl _) hn1) (fun hHeld => ?_)
    clear hK K
    try simp only [Act.put, List.setIfInBounds_toArray, List.set_cons_zero, List.set_cons_succ]
    clear hn1
    refine wpAnyH_take (i := 14) (oi := { dst := some 15, op := Op.move (Operand.tmp 29), type := 122, pos := "do.go:278", after := #[{ on := 13, ground := Ground.data }], guard := none }) (v := ?_) rfl (by kernel_rfl) (by kernel_rfl) (by kernel_rfl) (fun _ _ _ h => h) (Or.inl ⟨by rfl, ?_⟩) (by assumption) ?_
    rotate_left
    · intro y hSw
      have q0 := (L0.out.on hSw).cell 1; have q1 := (L0.out.on hSw).cell 5; have q2 := (M0.out.bx.on hSw).cell (3 + s)
      go_simp
      try with_reducible rfl
    try simp only [Act.put, List.setIfInBounds_toArray, List.set_cons_zero, List.set_cons_succ]
    refine wpAnyH_take (i := 15) (oi := { dst := some 30, op := Op.extract (Operand.tmp 15) 0, type := 23, pos := "do.go:278", after := #[{ on := 14, ground := Ground.data }], guard := none }) (v := ?_) rfl (by kernel_rfl) (by kernel_rfl) (by kernel_rfl) (fun _ _ _ h => h) (Or.inl ⟨by rfl, ?_⟩) (by assumption) ?_
    rotate_left
    · intro y hSw
      have q0 := (L0.out.on hSw).cell 1; have q1 := (L0.out.on hSw).cell 5; have q2 := (M0.out.bx.on hSw).cell (3 + s)
      go_simp
      try with_reducible rfl
    try simp only [Act.put, List.setIfInBounds_toArray, List.set_cons_zero, List.set_cons_succ]
    refine wpAnyH_take (i := 16) (oi := { dst := some 31, op := Op.extract (Operand.tmp 15) 1, type := 75, pos := "do.go:278", after := #[{ on := 14, ground := Ground.data }, { on := 19, ground := Ground.gcOnly Departure.lateStores }], guard := none }) (v := ?_) rfl (by kernel_rfl) (by kernel_rfl) (by kernel_rfl) (fun _ _ _ h => h) (Or.inl ⟨by rfl, ?_⟩) (by assumption) ?_
    rotate_left
    · intro y hSw
      have q0 := (L0.out.on hSw).cell 1; have q1 := (L0.out.on hSw).cell 5; have q2 := (M0.out.bx.on hSw).cell (3 + s)
      go_simp
      try with_reducible rfl
    try simp only [Act.put, List.setIfInBounds_toArray, List.set_cons_zero, List.set_cons_succ]
    refine wpAnyH_take (i := 17) (oi := { dst := some 32, op := Op.extract (Operand.tmp 15) 2, type := 4, pos := "do.go:278", after := #[{ on := 14, ground := Ground.data }, { on := 20, ground := Ground.gcOnly Departure.lateStores }], guard := none }) (v := ?_) rfl (by kernel_rfl) (by kernel_rfl) (by kernel_rfl) (fun _ _ _ h => h) (Or.inl ⟨by rfl, ?_⟩) (by assumption) ?_
    rotate_left
    · intro y hSw
      have q0 := (L0.out.on hSw).cell 1; have q1 := (L0.out.on hSw).cell 5; have q2 := (M0.out.bx.on hSw).cell (3 + s)
      go_simp
      try with_reducible rfl
    try simp only [Act.put, List.setIfInBounds_toArray, List.set_cons_zero, List.set_cons_succ]
    refine wpAnyH_take (i := 19) (oi := { dst := some 9, op := Op.assign (Operand.tmp 30), type := 23, pos := "do.go:278", after := #[{ on := 15, ground := Ground.data }, { on := 13, ground := Ground.chain }, { on := 0, ground := Ground.phase }, { on := 1, ground := Ground.phase }, { on := 2, ground := Ground.phase }, { on := 3, ground := Ground.phase }, { on := 4, ground := Ground.phase }, { on := 5, ground := Ground.phase }, { on := 6, ground := Ground.phase }, { on := 7, ground := Ground.phase }, { on := 8, ground := Ground.phase }, { on := 9, ground := Ground.phase }, { on := 10, ground := Ground.phase }, { on := 11, ground := Ground.phase }, { on := 12, ground := Ground.phase }, { on := 13, ground := Ground.phase }, { on := 14, ground := Ground.phase }, { on := 15, ground := Ground.phase }, { on := 16, ground := Ground.textOnly Departure.lateStores }, { on := 17, ground := Ground.textOnly Departure.lateStores }, { on := 18, ground := Ground.phase }], guard := none }) (v := ?_) rfl (by kernel_rfl) (by kernel_rfl) (by kernel_rfl) (fun _ _ _ h => h) (Or.inl ⟨by rfl, ?_⟩) (by assumption) ?_
    rotate_left
    · intro y hSw
      have q0 := (L0.out.on hSw).cell 1; have q1 := (L0.out.on hSw).cell 5; have q2 := (M0.out.bx.on hSw).cell (3 + s)
      go_simp
      try with_reducible rfl
    try simp only [Act.put, List.setIfInBounds_toArray, List.set_cons_zero, List.set_cons_succ]
    refine wpAnyH_ready (rs := [20]) (by kernel_rfl) (by simp) ?_
    refine AllReadyH.cons (o := { dst := none, op := Op.store 75 (Operand.tmp 10) (Operand.tmp 31), type := 0, pos := "do.go:278", after := #[{ on := 18, ground := Ground.data }, { on := 16, ground := Ground.data }, { on := 19, ground := Ground.chain }, { on := 0, ground := Ground.phase }, { on := 1, ground := Ground.phase }, { on := 2, ground := Ground.phase }, { on := 3, ground := Ground.phase }, { on := 4, ground := Ground.phase }, { on := 5, ground := Ground.phase }, { on := 6, ground := Ground.phase }, { on := 7, ground := Ground.phase }, { on := 8, ground := Ground.phase }, { on := 9, ground := Ground.phase }, { on := 10, ground := Ground.phase }, { on := 11, ground := Ground.phase }, { on := 12, ground := Ground.phase }, { on := 13, ground := Ground.phase }, { on := 14, ground := Ground.phase }, { on := 15, ground := Ground.phase }, { on := 16, ground := Ground.phase }, { on := 17, ground := Ground.textOnly Departure.lateStores }, { on := 18, ground := Ground.phase }, { on := 19, ground := Ground.phase }], guard := none }) rfl (fun K hK => ?_) AllReadyH.nil
    have hst := store_part x2 LB 0 (cellsF F) RB.1 (by rw [RB.2.1]; rfl) rfl
    rw [RB.2.1, zf6] at hst
    have RC := RB.set (cellsF F)
    go_simp
    refine hK.out _ _ (below_setRow hHeld hLB _) (fun hHeld => ?_)
    clear hK K
    try simp only [Act.put, List.setIfInBounds_toArray, List.set_cons_zero, List.set_cons_succ]
    clear hst RB
    generalize x2.setRow LB (cellsF F) = x3 at *
    refine wpAnyH_take (i := 21) (oi := { dst := some 11, op := Op.assign (Operand.tmp 32), type := 4, pos := "do.go:278", after := #[{ on := 17, ground := Ground.data }, { on := 20, ground := Ground.chain }, { on := 0, ground := Ground.phase }, { on := 1, ground := Ground.phase }, { on := 2, ground := Ground.phase }, { on := 3, ground := Ground.phase }, { on := 4, ground := Ground.phase }, { on := 5, ground := Ground.phase }, { on := 6, ground := Ground.phase }, { on := 7, ground := Ground.phase }, { on := 8, ground := Ground.phase }, { on := 9, ground := Ground.phase }, { on := 10, ground := Ground.phase }, { on := 11, ground := Ground.phase }, { on := 12, ground := Ground.phase }, { on := 13, ground := Ground.phase }, { on := 14, ground := Ground.phase }, { on := 15, ground := Ground.phase }, { on := 16, ground := Ground.phase }, { on := 17, ground := Ground.phase }, { on := 18, ground := Ground.phase }, { on := 19, ground := Ground.phase }, { on := 20, ground := Ground.phase }], guard := none }) (v := ?_) rfl (by kernel_rfl) (by kernel_rfl) (by kernel_rfl) (fun _ _ _ h => h) (Or.inl ⟨by rfl, ?_⟩) (by assumption) ?_
    rotate_left
    · intro y hSw
      have q0 := (L0.out.on hSw).cell 1; have q1 := (L0.out.on hSw).cell 5; have q2 := (M0.out.bx.on hSw).cell (3 + s)
      go_simp
      try with_reducible rfl
    try simp only [Act.put, List.setIfInBounds_toArray, List.set_cons_zero, List.set_cons_succ]
    refine wpAnyH_done (by kernel_rfl) ?_ _
    go_wp2_with fail
    go_meet
    case rel => exact ⟨LB, rfl, rfl, rfl, hide ⟨RC, hLB, hHeld⟩⟩
  case rest =>
    obtain ⟨LB, rfl, rfl, rfl, HC⟩ := hcut
    have M1 := hide (M0.out.on HC.out.2.2)
    have L1 := hide (L0.out.on HC.out.2.2)
    have R1 := hide (R0.out.on HC.out.2.2)
    have K1 := hide (onto BX.out (Nat.le_refl _) (HC.out.2.2.mono (by omega)))
    have FB := HC.out.1
    have hLB := HC.out.2.1
    clear HC M0 L0 R0 BX
    have rR := R1.out
    obtain ⟨rr1, rr2, rr3⟩ := rR
    have bS := hide fun (q : Array Value) => Kept.below (l := [w.heap.size + 1]) K1.out (Kept.set wc (w.heap.size + 1) q (by simp)) (Nat.le_refl _) (by simp)
    rcases hO.out with ⟨rfl, rfl⟩ | ⟨rfl, rfl, rfl, rfl⟩ | ⟨rfl, o1, hEO⟩ | ⟨rfl, rfl, rfl, hEO⟩
    · have ldF := FB.loads (d := cellsF F) 0 NF rfl rfl
      go_wp2
      exact bodyPost_ret (v := .tuple #[.agg (cellsF F), .bool false]) (by simp [results, Tryz.results62, go_sem, t3, rr1, zf1, zf5, zf7, zf8]) rfl ⟨rfl, M1.out.far _ _ (by omega) (by omega) (by omega) (by omega) (by omega), Kept.of (bS.out _)⟩
    · obtain ⟨r1, r2, r3, r4, r5⟩ := M1.out.bx.cells
      obtain ⟨l1, l2, l3, l4, l5⟩ := L1.out.cells
      go_wp2_with fail
      refine (cq0.out _ M1.out.bx).mono ?_
      rintro r x2 ⟨rfl, hw⟩
      have M4 : Hid (Mach x2 cb bb p g n cp { m with c := C0 }) := (by rw [hw]; exact hide (M1.out.state (M1.out.bx.set _) (Kept.set _ cb _ (by simp)) w0.out))
      have K4 : Hid (Kept [cb, bb, g] w x2) := (by rw [hw]; exact hide ((Kept.of (l := [cb, bb, g]) K1.out).trans (Kept.set _ cb _ (by simp))))
      have R4 : Hid (Box x2 (w.heap.size + 1) (cellsF F0)) := (by rw [hw]; exact hide (R1.out.far cb _ (by omega)))
      clear hw l1 l2 l3 l4 l5 r1 r2 r3 r4 r5 rr1 rr2 rr3 bS t1 t2 t3 t4 t5 t6 t7 t8 t9
      have hst := fun f => (R4.out.last0 f).1
      have hld := hide fun f => (R4.out.last0 f).2
      go_wp2
      exact bodyPost_ret (v := .tuple #[.agg (cellsF F0), .bool true]) (by simp [results, Tryz.results62, go_sem, zf1, zf5, hld.out]) rfl ⟨rfl, M4.out.far (w.heap.size + 1) _ (by omega) (by omega) (by omega) (by omega) (by omega), K4.out.late (w.heap.size + 1) _ (by omega)⟩
    · obtain ⟨r1, r2, r3, r4, r5⟩ := M1.out.bx.cells
      obtain ⟨l1, l2, l3, l4, l5⟩ := L1.out.cells
      go_wp2_with fail
      refine wp_region_held_drew (S := fun x => Box x w.heap.size #[.int .i64 o, .int .i64 (s : Int), .int .i64 (t : Int), .int .i64 (d : Int), .int .i64 (a : Int), .int .i64 i] ∧ Box x cb (cellsC m.c)) (by kernel_rfl) ⟨L1.out.drew, M1.out.bx.drew⟩ (fun hHeld => ?_)
      have M2 := hide M1.out.drew
      have M3L : Hid (Box wc.drew w.heap.size #[.int .i64 o, .int .i64 (s : Int), .int .i64 (t : Int), .int .i64 (d : Int), .int .i64 (a : Int), .int .i64 i]) := hide L1.out.drew
      have R2 : Hid (Box wc.drew (w.heap.size + 1) (cellsF F0)) := hide R1.out.drew
      have K2w := hide ((Kept.of (l := [cb, bb, g]) K1.out).drew)
      generalize wc.drew = xd at *
      have hT := M2.out.wc.R t
      have cl := hide (store_is M2.out.bus P Z (m.c.R t) hPw.1 hPw.2 hT.1 hT.2)
      rw [hL] at cl
      clear t1 t2 t3 t4 t5 t6 t7 t8 t9 M1 L1 R1 K1 bS rr1 rr2 rr3 FB
      refine wpAnyH_take (i := 0) (oi := { dst := some 51, op := Op.move (Operand.tmp 1), type := 25, pos := "do.go:287", after := #[], guard := none }) (v := ?_) rfl (by kernel_rfl) (by kernel_rfl) (by kernel_rfl) (fun _ _ _ h => h) (Or.inl ⟨by rfl, ?_⟩) (by assumption) ?_
      rotate_left
      · intro y hSw
        have q0 := hSw.1.cell 2; have q1 := hSw.2.cell (3 + t)
        go_simp
        try with_reducible rfl
      try simp only [Act.put, List.setIfInBounds_toArray, List.set_cons_zero, List.set_cons_succ]
      refine wpAnyH_take (i := 1) (oi := { dst := some 52, op := Op.move (Operand.tmp 9), type := 23, pos := "do.go:287", after := #[], guard := none }) (v := ?_) rfl (by kernel_rfl) (by kernel_rfl) (by kernel_rfl) (fun _ _ _ h => h) (Or.inl ⟨by rfl, ?_⟩) (by assumption) ?_
      rotate_left
      · intro y hSw
        have q0 := hSw.1.cell 2; have q1 := hSw.2.cell (3 + t)
        go_simp
        try with_reducible rfl
      try simp only [Act.put, List.setIfInBounds_toArray, List.set_cons_zero, List.set_cons_succ]
      refine wpAnyH_take (i := 2) (oi := { dst := some 53, op := Op.move (Operand.tmp 8), type := 3, pos := "do.go:287", after := #[], guard := none }) (v := ?_) rfl (by kernel_rfl) (by kernel_rfl) (by kernel_rfl) (fun _ _ _ h => h) (Or.inl ⟨by rfl, ?_⟩) (by assumption) ?_
      rotate_left
      · intro y hSw
        have q0 := hSw.1.cell 2; have q1 := hSw.2.cell (3 + t)
        go_simp
        try with_reducible rfl
      try simp only [Act.put, List.setIfInBounds_toArray, List.set_cons_zero, List.set_cons_succ]
      refine wpAnyH_take (i := 3) (oi := { dst := some 54, op := Op.move (Operand.tmp 0), type := 44, pos := "do.go:287", after := #[], guard := none }) (v := ?_) rfl (by kernel_rfl) (by kernel_rfl) (by kernel_rfl) (fun _ _ _ h => h) (Or.inl ⟨by rfl, ?_⟩) (by assumption) ?_
      rotate_left
      · intro y hSw
        have q0 := hSw.1.cell 2; have q1 := hSw.2.cell (3 + t)
        go_simp
        try with_reducible rfl
      try simp only [Act.put, List.setIfInBounds_toArray, List.set_cons_zero, List.set_cons_succ]
      refine wpAnyH_take (i := 4) (oi := { dst := some 55, op := Op.fieldAddr 73 (Operand.tmp 5) 2, type := 0, pos := "do.go:287", after := #[], guard := none }) (v := ?_) rfl (by kernel_rfl) (by kernel_rfl) (by kernel_rfl) (fun _ _ _ h => h) (Or.inl ⟨by rfl, ?_⟩) (by assumption) ?_
      rotate_left
      · intro y hSw
        have q0 := hSw.1.cell 2; have q1 := hSw.2.cell (3 + t)
        go_simp
        try with_reducible rfl
      try simp only [Act.put, List.setIfInBounds_toArray, List.set_cons_zero, List.set_cons_succ]
      refine wpAnyH_take (i := 5) (oi := { dst := some 56, op := Op.load 3 (Operand.tmp 55), type := 3, pos := "do.go:287", after := #[{ on := 4, ground := Ground.data }], guard := none }) (v := ?_) rfl (by kernel_rfl) (by kernel_rfl) (by kernel_rfl) (fun _ _ _ h => h) (Or.inl ⟨by rfl, ?_⟩) (by assumption) ?_
      rotate_left
      · intro y hSw
        have q0 := hSw.1.cell 2; have q1 := hSw.2.cell (3 + t)
        go_simp
        try with_reducible rfl
      try simp only [Act.put, List.setIfInBounds_toArray, List.set_cons_zero, List.set_cons_succ]
      refine wpAnyH_take (i := 6) (oi := { dst := some 57, op := Op.nilCheck (Operand.tmp 54), type := 0, pos := "do.go:287", after := #[{ on := 3, ground := Ground.data }], guard := none }) (v := ?_) rfl (by kernel_rfl) (by kernel_rfl) (by kernel_rfl) (fun _ _ _ h => h) (Or.inl ⟨by rfl, ?_⟩) (by assumption) ?_
      rotate_left
      · intro y hSw
        have q0 := hSw.1.cell 2; have q1 := hSw.2.cell (3 + t)
        go_simp
        try with_reducible rfl
      try simp only [Act.put, List.setIfInBounds_toArray, List.set_cons_zero, List.set_cons_succ]
      refine wpAnyH_take (i := 7) (oi := { dst := some 58, op := Op.fieldAddr 40 (Operand.tmp 57) 3, type := 0, pos := "do.go:287", after := #[{ on := 6, ground := Ground.data }], guard := none }) (v := ?_) rfl (by kernel_rfl) (by kernel_rfl) (by kernel_rfl) (fun _ _ _ h => h) (Or.inl ⟨by rfl, ?_⟩) (by assumption) ?_
      rotate_left
      · intro y hSw
        have q0 := hSw.1.cell 2; have q1 := hSw.2.cell (3 + t)
        go_simp
        try with_reducible rfl
      try simp only [Act.put, List.setIfInBounds_toArray, List.set_cons_zero, List.set_cons_succ]
      refine wpAnyH_take (i := 8) (oi := { dst := some 59, op := Op.indexAddr 24 (Operand.tmp 58) (Operand.tmp 56), type := 0, pos := "do.go:287", after := #[{ on := 7, ground := Ground.data }, { on := 5, ground := Ground.data }], guard := none }) (v := ?_) rfl (by kernel_rfl) (by kernel_rfl) (by kernel_rfl) (fun _ _ _ h => h) (Or.inl ⟨by rfl, ?_⟩) (by assumption) ?_
      rotate_left
      · intro y hSw
        have q0 := hSw.1.cell 2; have q1 := hSw.2.cell (3 + t)
        go_simp
        try with_reducible rfl
      try simp only [Act.put, List.setIfInBounds_toArray, List.set_cons_zero, List.set_cons_succ]
      refine wpAnyH_take (i := 9) (oi := { dst := some 60, op := Op.load 23 (Operand.tmp 59), type := 23, pos := "do.go:287", after := #[{ on := 8, ground := Ground.data }], guard := none }) (v := ?_) rfl (by kernel_rfl) (by kernel_rfl) (by kernel_rfl) (fun _ _ _ h => h) (Or.inl ⟨by rfl, ?_⟩) (by assumption) ?_
      rotate_left
      · intro y hSw
        have q0 := hSw.1.cell 2; have q1 := hSw.2.cell (3 + t)
        go_simp
        try with_reducible rfl
      try simp only [Act.put, List.setIfInBounds_toArray, List.set_cons_zero, List.set_cons_succ]
      refine wpAnyH_ready (rs := [10]) (by kernel_rfl) (by simp) ?_
      refine AllReadyH.cons (o := { dst := some 61, op := Op.call { callee := Callee.value (Operand.func 5), args := #[Operand.tmp 51, Operand.tmp 52, Operand.tmp 53, Operand.tmp 60], argTypes := #[25, 23, 3, 23] }, type := 26, pos := "do.go:287", after := #[{ on := 0, ground := Ground.data }, { on := 1, ground := Ground.data }, { on := 2, ground := Ground.data }, { on := 9, ground := Ground.data }], guard := none }) rfl (fun K hK => ?_) AllReadyH.nil
      go_simp
      refine cl.out.mono ?_
      rintro r x1 ⟨rfl, B2, K2⟩
      have M3 := hide (M2.out.turn B2 K2)
      have L3 := M3L.out.kept K2 (by simp; omega)
      have R3 := hide (R2.out.kept K2 (by simp; omega))
      have K3 := hide (K2w.out.trans (K2.mono (by simp)))
      have B3 := M3.out.bx
      clear B2 K2
      go_wp2_with fail
      refine hK.out _ _ (⟨L3, B3⟩) (fun hHeld => ?_)
      clear hK K
      try simp only [Act.put, List.setIfInBounds_toArray, List.set_cons_zero, List.set_cons_succ]
      clear L3 B3
      refine wpAnyH_take (i := 11) (oi := { dst := some 62, op := Op.binOp BinOp.neq 26 (Operand.tmp 61) (Operand.const (Value.int IntKind.i64 0)) 26, type := 4, pos := "do.go:287", after := #[{ on := 10, ground := Ground.data }], guard := none }) (v := ?_) rfl (by kernel_rfl) (by kernel_rfl) (by kernel_rfl) (fun _ _ _ h => h) (Or.inl ⟨by rfl, ?_⟩) (by assumption) ?_
      rotate_left
      · intro y hSw
        have q0 := hSw.1.cell 2; have q1 := hSw.2.cell (3 + t)
        go_simp
        try with_reducible rfl
      try simp only [Act.put, List.setIfInBounds_toArray, List.set_cons_zero, List.set_cons_succ]
      refine wpAnyH_done (by kernel_rfl) ?_ _
      rcases hEO with ⟨e0, rfl⟩ | ⟨rfl, rfl⟩
      · obtain ⟨n1, n2, n3⟩ := stA_no hL (by simpa using e0)
        subst n1 n2 n3
        have hst := fun f => (R3.out.last0 f).1
        have hld := hide fun f => (R3.out.last0 f).2
        go_wp2
        exact bodyPost_ret (v := .tuple #[.agg (cellsF (ftC 7)), .bool false]) (by simp [results, Tryz.results62, go_sem, zf1, zf5, hld.out]; rfl) rfl ⟨rfl, M3.out.far (w.heap.size + 1) _ (by omega) (by omega) (by omega) (by omega) (by omega), K3.out.late (w.heap.size + 1) _ (by omega)⟩
      · have hst := fun f => (R3.out.last0 f).1
        have hld := hide fun f => (R3.out.last0 f).2
        obtain ⟨l1, l2, l3, l4, l5⟩ := hHeld.1.cells
        go_wp2
        exact bodyPost_ret (v := .tuple #[.agg (cellsF F0), .bool true]) (by simp [results, Tryz.results62, go_sem, zf1, zf5, hld.out]) rfl ⟨rfl, M3.out.far (w.heap.size + 1) _ (by omega) (by omega) (by omega) (by omega) (by omega), K3.out.late (w.heap.size + 1) _ (by omega)⟩
    · obtain ⟨r1, r2, r3, r4, r5⟩ := M1.out.bx.cells
      obtain ⟨l1, l2, l3, l4, l5⟩ := L1.out.cells
      go_wp2_with fail
      refine wp_region_held_drew (S := fun x => Box x w.heap.size #[.int .i64 68, .int .i64 (s : Int), .int .i64 (t : Int), .int .i64 (d : Int), .int .i64 (a : Int), .int .i64 i] ∧ Box x cb (cellsC m.c)) (by kernel_rfl) ⟨L1.out.drew, M1.out.bx.drew⟩ (fun hHeld => ?_)
      have M2 := hide M1.out.drew
      have M3L : Hid (Box wc.drew w.heap.size #[.int .i64 68, .int .i64 (s : Int), .int .i64 (t : Int), .int .i64 (d : Int), .int .i64 (a : Int), .int .i64 i]) := hide L1.out.drew
      have R2 : Hid (Box wc.drew (w.heap.size + 1) (cellsF F0)) := hide R1.out.drew
      have K2w := hide ((Kept.of (l := [cb, bb, g]) K1.out).drew)
      generalize wc.drew = xd at *
      have hT := M2.out.wc.R t
      have cl := hide (store_is M2.out.bus P Z (m.c.R t) hPw.1 hPw.2 hT.1 hT.2)
      rw [hL] at cl
      clear t1 t2 t3 t4 t5 t6 t7 t8 t9 M1 L1 R1 K1 bS rr1 rr2 rr3 FB
      refine wpAnyH_take (i := 0) (oi := { dst := some 51, op := Op.move (Operand.tmp 1), type := 25, pos := "do.go:287", after := #[], guard := none }) (v := ?_) rfl (by kernel_rfl) (by kernel_rfl) (by kernel_rfl) (fun _ _ _ h => h) (Or.inl ⟨by rfl, ?_⟩) (by assumption) ?_
      rotate_left
      · intro y hSw
        have q0 := hSw.1.cell 2; have q1 := hSw.2.cell (3 + t)
        go_simp
        try with_reducible rfl
      try simp only [Act.put, List.setIfInBounds_toArray, List.set_cons_zero, List.set_cons_succ]
      refine wpAnyH_take (i := 1) (oi := { dst := some 52, op := Op.move (Operand.tmp 9), type := 23, pos := "do.go:287", after := #[], guard := none }) (v := ?_) rfl (by kernel_rfl) (by kernel_rfl) (by kernel_rfl) (fun _ _ _ h => h) (Or.inl ⟨by rfl, ?_⟩) (by assumption) ?_
      rotate_left
      · intro y hSw
        have q0 := hSw.1.cell 2; have q1 := hSw.2.cell (3 + t)
        go_simp
        try with_reducible rfl
      try simp only [Act.put, List.setIfInBounds_toArray, List.set_cons_zero, List.set_cons_succ]
      refine wpAnyH_take (i := 2) (oi := { dst := some 53, op := Op.move (Operand.tmp 8), type := 3, pos := "do.go:287", after := #[], guard := none }) (v := ?_) rfl (by kernel_rfl) (by kernel_rfl) (by kernel_rfl) (fun _ _ _ h => h) (Or.inl ⟨by rfl, ?_⟩) (by assumption) ?_
      rotate_left
      · intro y hSw
        have q0 := hSw.1.cell 2; have q1 := hSw.2.cell (3 + t)
        go_simp
        try with_reducible rfl
      try simp only [Act.put, List.setIfInBounds_toArray, List.set_cons_zero, List.set_cons_succ]
      refine wpAnyH_take (i := 3) (oi := { dst := some 54, op := Op.move (Operand.tmp 0), type := 44, pos := "do.go:287", after := #[], guard := none }) (v := ?_) rfl (by kernel_rfl) (by kernel_rfl) (by kernel_rfl) (fun _ _ _ h => h) (Or.inl ⟨by rfl, ?_⟩) (by assumption) ?_
      rotate_left
      · intro y hSw
        have q0 := hSw.1.cell 2; have q1 := hSw.2.cell (3 + t)
        go_simp
        try with_reducible rfl
      try simp only [Act.put, List.setIfInBounds_toArray, List.set_cons_zero, List.set_cons_succ]
      refine wpAnyH_take (i := 4) (oi := { dst := some 55, op := Op.fieldAddr 73 (Operand.tmp 5) 2, type := 0, pos := "do.go:287", after := #[], guard := none }) (v := ?_) rfl (by kernel_rfl) (by kernel_rfl) (by kernel_rfl) (fun _ _ _ h => h) (Or.inl ⟨by rfl, ?_⟩) (by assumption) ?_
      rotate_left
      · intro y hSw
        have q0 := hSw.1.cell 2; have q1 := hSw.2.cell (3 + t)
        go_simp
        try with_reducible rfl
      try simp only [Act.put, List.setIfInBounds_toArray, List.set_cons_zero, List.set_cons_succ]
      refine wpAnyH_take (i := 5) (oi := { dst := some 56, op := Op.load 3 (Operand.tmp 55), type := 3, pos := "do.go:287", after := #[{ on := 4, ground := Ground.data }], guard := none }) (v := ?_) rfl (by kernel_rfl) (by kernel_rfl) (by kernel_rfl) (fun _ _ _ h => h) (Or.inl ⟨by rfl, ?_⟩) (by assumption) ?_
      rotate_left
      · intro y hSw
        have q0 := hSw.1.cell 2; have q1 := hSw.2.cell (3 + t)
        go_simp
        try with_reducible rfl
      try simp only [Act.put, List.setIfInBounds_toArray, List.set_cons_zero, List.set_cons_succ]
      refine wpAnyH_take (i := 6) (oi := { dst := some 57, op := Op.nilCheck (Operand.tmp 54), type := 0, pos := "do.go:287", after := #[{ on := 3, ground := Ground.data }], guard := none }) (v := ?_) rfl (by kernel_rfl) (by kernel_rfl) (by kernel_rfl) (fun _ _ _ h => h) (Or.inl ⟨by rfl, ?_⟩) (by assumption) ?_
      rotate_left
      · intro y hSw
        have q0 := hSw.1.cell 2; have q1 := hSw.2.cell (3 + t)
        go_simp
        try with_reducible rfl
      try simp only [Act.put, List.setIfInBounds_toArray, List.set_cons_zero, List.set_cons_succ]
      refine wpAnyH_take (i := 7) (oi := { dst := some 58, op := Op.fieldAddr 40 (Operand.tmp 57) 3, type := 0, pos := "do.go:287", after := #[{ on := 6, ground := Ground.data }], guard := none }) (v := ?_) rfl (by kernel_rfl) (by kernel_rfl) (by kernel_rfl) (fun _ _ _ h => h) (Or.inl ⟨by rfl, ?_⟩) (by assumption) ?_
      rotate_left
      · intro y hSw
        have q0 := hSw.1.cell 2; have q1 := hSw.2.cell (3 + t)
        go_simp
        try with_reducible rfl
      try simp only [Act.put, List.setIfInBounds_toArray, List.set_cons_zero, List.set_cons_succ]
      refine wpAnyH_take (i := 8) (oi := { dst := some 59, op := Op.indexAddr 24 (Operand.tmp 58) (Operand.tmp 56), type := 0, pos := "do.go:287", after := #[{ on := 7, ground := Ground.data }, { on := 5, ground := Ground.data }], guard := none }) (v := ?_) rfl (by kernel_rfl) (by kernel_rfl) (by kernel_rfl) (fun _ _ _ h => h) (Or.inl ⟨by rfl, ?_⟩) (by assumption) ?_
      rotate_left
      · intro y hSw
        have q0 := hSw.1.cell 2; have q1 := hSw.2.cell (3 + t)
        go_simp
        try with_reducible rfl
      try simp only [Act.put, List.setIfInBounds_toArray, List.set_cons_zero, List.set_cons_succ]
      refine wpAnyH_take (i := 9) (oi := { dst := some 60, op := Op.load 23 (Operand.tmp 59), type := 23, pos := "do.go:287", after := #[{ on := 8, ground := Ground.data }], guard := none }) (v := ?_) rfl (by kernel_rfl) (by kernel_rfl) (by kernel_rfl) (fun _ _ _ h => h) (Or.inl ⟨by rfl, ?_⟩) (by assumption) ?_
      rotate_left
      · intro y hSw
        have q0 := hSw.1.cell 2; have q1 := hSw.2.cell (3 + t)
        go_simp
        try with_reducible rfl
      try simp only [Act.put, List.setIfInBounds_toArray, List.set_cons_zero, List.set_cons_succ]
      refine wpAnyH_ready (rs := [10]) (by kernel_rfl) (by simp) ?_
      refine AllReadyH.cons (o := { dst := some 61, op := Op.call { callee := Callee.value (Operand.func 5), args := #[Operand.tmp 51, Operand.tmp 52, Operand.tmp 53, Operand.tmp 60], argTypes := #[25, 23, 3, 23] }, type := 26, pos := "do.go:287", after := #[{ on := 0, ground := Ground.data }, { on := 1, ground := Ground.data }, { on := 2, ground := Ground.data }, { on := 9, ground := Ground.data }], guard := none }) rfl (fun K hK => ?_) AllReadyH.nil
      go_simp
      refine cl.out.mono ?_
      rintro r x1 ⟨rfl, B2, K2⟩
      have M3 := hide (M2.out.turn B2 K2)
      have L3 := M3L.out.kept K2 (by simp; omega)
      have R3 := hide (R2.out.kept K2 (by simp; omega))
      have K3 := hide (K2w.out.trans (K2.mono (by simp)))
      have B3 := M3.out.bx
      clear B2 K2
      go_wp2_with fail
      refine hK.out _ _ (⟨L3, B3⟩) (fun hHeld => ?_)
      clear hK K
      try simp only [Act.put, List.setIfInBounds_toArray, List.set_cons_zero, List.set_cons_succ]
      clear L3 B3
      refine wpAnyH_take (i := 11) (oi := { dst := some 62, op := Op.binOp BinOp.neq 26 (Operand.tmp 61) (Operand.const (Value.int IntKind.i64 0)) 26, type := 4, pos := "do.go:287", after := #[{ on := 10, ground := Ground.data }], guard := none }) (v := ?_) rfl (by kernel_rfl) (by kernel_rfl) (by kernel_rfl) (fun _ _ _ h => h) (Or.inl ⟨by rfl, ?_⟩) (by assumption) ?_
      rotate_left
      · intro y hSw
        have q0 := hSw.1.cell 2; have q1 := hSw.2.cell (3 + t)
        go_simp
        try with_reducible rfl
      try simp only [Act.put, List.setIfInBounds_toArray, List.set_cons_zero, List.set_cons_succ]
      refine wpAnyH_done (by kernel_rfl) ?_ _
      rcases hEO with ⟨e0, rfl⟩ | ⟨rfl, rfl⟩
      · obtain ⟨n1, n2, n3⟩ := stA_no hL (by simpa using e0)
        subst n1 n2 n3
        have hst := fun f => (R3.out.last0 f).1
        have hld := hide fun f => (R3.out.last0 f).2
        go_wp2
        exact bodyPost_ret (v := .tuple #[.agg (cellsF (ftC 7)), .bool false]) (by simp [results, Tryz.results62, go_sem, zf1, zf5, hld.out]; rfl) rfl ⟨rfl, M3.out.far (w.heap.size + 1) _ (by omega) (by omega) (by omega) (by omega) (by omega), K3.out.late (w.heap.size + 1) _ (by omega)⟩
      · obtain ⟨l1, l2, l3, l4, l5⟩ := hHeld.1.cells
        go_wp2_with fail
        refine (cq1.out _ M3.out.bx).mono ?_
        rintro r x2 ⟨rfl, hw⟩
        have M4 : Hid (Mach x2 cb bb p g n cp ⟨C1, V, B', D'⟩) := (by rw [hw]; exact hide (M3.out.state (M3.out.bx.set _) (Kept.set _ cb _ (by simp)) w1.out))
        have K4 : Hid (Kept [cb, bb, g] w x2) := (by rw [hw]; exact hide (K3.out.trans (Kept.set _ cb _ (by simp))))
        have R4 : Hid (Box x2 (w.heap.size + 1) (cellsF F0)) := (by rw [hw]; exact hide (R3.out.far cb _ (by omega)))
        clear hw l1 l2 l3 l4 l5
        obtain ⟨r1, r2, r3, r4, r5⟩ := M4.out.bx.cells
        obtain ⟨k1, k2, k3, k4, k5, k6⟩ := stRules cb
        have s37 := cSets.2.2.2.2.2.1
        have hst := fun C => (R4.out.last (b := cb) (by omega) F0 C).1
        have hld := hide fun C => (R4.out.last (b := cb) (by omega) F0 C).2
        have fin := hide (M4.out.done K4.out { C1 with lk := false } (M4.out.wc.link _) (w.heap.size + 1) F0 (by omega) hcc hbb hpp hgg h2)
        go_wp2
        exact bodyPost_ret (v := .tuple #[.agg (cellsF F0), .bool true]) (by simp [results, Tryz.results62, go_sem, zf1, zf5, hld.out]) rfl ⟨rfl, fin.out.1, fin.out.2⟩

end Go.Proofs.YtmegghgjllbamaaGreatDoor

/- Layer 13: contracts of the program's loads and stores, as functions of the state. -/
namespace Go.Proofs.YtmegghgjllbamaaGreatDoor
open Go.RowKit
set_option linter.unusedVariables false
set_option maxRecDepth 100000
set_option linter.unusedSimpArgs false

theorem whereV_w {c : Cs} (hc : Wc c) {a : Int} (ha : Cp.W32 a) (wr : Bool) : Cp.W32 (whereV c a wr).1 := by
  obtain ⟨a0, a1⟩ := ha
  unfold whereV
  repeat' split
  · exact Cp.w0
  · constructor <;> (show _ ; dsimp only; omega)
  · show Cp.W32 (Tl.mapV c.T a wr _).1
    unfold Tl.mapV Tl.joinV
    repeat' split
    · exact Cp.w0
    · exact Cp.w0
    · exact Cp.w0
    · have := hc.T ((findV c.T a (c.C.h % 256)).toNat * 2 + 1)
      constructor <;> dsimp only <;> omega
  · exact Cp.w0
  · exact Cp.w0

theorem plV_w {c : Cs} (hc : Wc c) {a : Int} (ha : Cp.W32 a) (z : Int) (wr : Bool) : Cp.W32 (plV c a z wr).1 := by
  unfold plV
  repeat' split
  · exact Cp.w0
  · exact whereV_w hc ha wr
  · exact Cp.w0

theorem fin_x {v q : Dv} {X E : Int} (h : Cp.W32 X) : Cp.W32 (fin v X E q).X := by
  unfold fin
  split
  · exact h
  · exact Cp.w0

theorem memX_w {n : Nat} {B : Nat → Nat} (hB : ∀ j, B j < 256) (a s : Int) : Cp.W32 (memX n B a s) := by
  unfold memX
  split
  next h =>
    have h1 := numOf_lt hB a.toNat s.toNat
    obtain ⟨hs, -, -⟩ := h
    have h2 : 256 ^ s.toNat ≤ 4294967296 := by
      rcases hs with rfl | rfl | rfl <;> decide
    constructor
    · omega
    · have : numOf B a.toNat s.toNat < 4294967296 := Nat.lt_of_lt_of_le h1 h2
      omega
  · exact Cp.w0

theorem ua_byte (s : ByteArray) (k : Nat) : Ua.byteN s k < 256 := by
  unfold Ua.byteN
  rw [List.getD_eq_getElem?_getD, List.getElem?_map]
  cases s.data.toList[k]? with
  | none => decide
  | some b => exact b.toNat_lt

theorem ldA_x {n : Nat} {v : Dv} (hv : Wv v) {B : Nat → Nat} (hB : ∀ j, B j < 256) (a s : Int) : Cp.W32 (ldA n v B a s).X := by
  unfold ldA
  split
  · split
    · unfold rdA
      repeat' split
      · refine fin_x ?_
        unfold Tm.readV Tm.one
        repeat' split
        · exact hv.t.e
        · exact hv.t.l
        · exact ⟨by decide, by decide⟩
        all_goals exact Cp.w0
      · refine fin_x ?_
        have h1 := hv.u.i
        have h2 := hv.u.o
        unfold Ua.readV
        repeat' split
        · have := ua_byte v.u.i 0
          constructor <;> omega
        · constructor <;> omega
        · constructor <;> omega
        · exact Cp.w0
      · refine fin_x ?_
        unfold Dm.readV
        repeat' split
        · exact hv.d.a
        · exact hv.d.n
        · exact hv.d.y
        · exact hv.d.b
        · exact Cp.w0
      · exact fin_x (nextX_w _)
    · exact Cp.w0
  · exact memX_w hB a s

theorem extV_w (s : Bool) {a : Int} (ha : Cp.W32 a) (n : Int) : Cp.W32 (Wo.extV s a n) := by
  obtain ⟨a0, a1⟩ := ha
  unfold Wo.extV
  split
  · exact ⟨a0, a1⟩
  next h =>
    have hp := Wo.pow_lt n.toNat (by omega)
    have h1 : 0 ≤ a % 2 ^ n.toNat := Int.emod_nonneg _ (by omega)
    have h2 : a % 2 ^ n.toNat < 2 ^ n.toNat := Int.emod_lt_of_pos _ (by omega)
    split
    · constructor <;> omega
    · constructor <;> omega

theorem wrap_sz (o : Int) : IntKind.i64.wrap (8 * szV o) = 8 * szV o := by
  rcases szV_is o with h | h | h <;> rw [h] <;> rfl

theorem adr_is (c : Cs) (o : Int) (s t d a : Nat) (i e : Int) : IntKind.u32.wrap (c.R s + IntKind.u32.wrap i) = adrV c ⟨o, s, t, d, a, i, e⟩ := by
  rw [IntKind.wrap_u32, IntKind.wrap_u32]; rfl

theorem loadC_any {w : World} {cb bb p g n cp : Nat} {m : Mc} (h : Mach w cb bb p g n cp m) (o : Int) (s t d a : Nat) (i e : Int) (hs : s < 32) (ht : t < 32) (ho : o = 59 ∨ o = 60 ∨ o = 61 ∨ o = 62 ∨ o = 63 ∨ o = 67) :
    Calls Tryz.prog 61 #[.pointer (some ⟨cb, 0, none⟩), .pointer (some ⟨bb, 0, none⟩), .agg #[.int .i64 o, .int .i64 (s : Int), .int .i64 (t : Int), .int .i64 (d : Int), .int .i64 (a : Int), .int .i64 i]] w fun r w' =>
      r = .returned (.tuple #[.agg (cellsF (loadM n m ⟨o, s, t, d, a, i, e⟩).f), .bool (loadM n m ⟨o, s, t, d, a, i, e⟩).k]) ∧ Mach w' cb bb p g n cp (loadM n m ⟨o, s, t, d, a, i, e⟩).m ∧ Kept [cb, bb, g] w w' := by
  have hA := adrV_w m.c ⟨o, s, t, d, a, i, e⟩
  have hX := ldA_x (n := n) h.bus.wv h.bus.m.lt (plV m.c (adrV m.c ⟨o, s, t, d, a, i, e⟩) (szV o) false).1 (szV o)
  refine load_raw h o s t d a i hs ht ho (adrV m.c ⟨o, s, t, d, a, i, e⟩) (szV o) (plV m.c (adrV m.c ⟨o, s, t, d, a, i, e⟩) (szV o) false).1 (plV m.c (adrV m.c ⟨o, s, t, d, a, i, e⟩) (szV o) false).2.1 (plV m.c (adrV m.c ⟨o, s, t, d, a, i, e⟩) (szV o) false).2.2
    rfl (adr_is m.c o s t d a i e) (fun x hx => place_any hx h.wc _ _ hA (szV_is o) false) (plV_w h.wc hA _ _) (ldA n m.v m.B (plV m.c (adrV m.c ⟨o, s, t, d, a, i, e⟩) (szV o) false).1 (szV o)).X (ldA n m.v m.B (plV m.c (adrV m.c ⟨o, s, t, d, a, i, e⟩) (szV o) false).1 (szV o)).E (ldA n m.v m.B (plV m.c (adrV m.c ⟨o, s, t, d, a, i, e⟩) (szV o) false).1 (szV o)).v rfl
    (Wo.extV (decide (o = 59 ∨ o = 60)) (ldA n m.v m.B (plV m.c (adrV m.c ⟨o, s, t, d, a, i, e⟩) (szV o) false).1 (szV o)).X (8 * szV o)) _ rfl m.c.lk (by unfold putC; split <;> rfl) (decide (o = 59 ∨ o = 60)) (decide (o = 67)) ?_ ?_ ?_ (extV_w _ hX _) _ ?_
  · by_cases h9 : o = 59
    · exact Or.inl ⟨h9, by simp [h9]⟩
    · refine Or.inr ⟨by simpa using h9, ?_⟩
      rw [Bool.eq_iff_iff]; simp [h9]
  · rw [Bool.eq_iff_iff]; simp
  · intro x
    rw [wrap_sz]
    exact Wo.ext_any _ _ _ x hX.1 hX.2
  · unfold loadM
    dsimp only
    by_cases hK : (plV m.c (adrV m.c ⟨o, s, t, d, a, i, e⟩) (szV o) false).2.2 = false
    · rw [if_pos hK]; exact Or.inl ⟨hK, rfl⟩
    · rw [if_neg hK]
      have hK' : (plV m.c (adrV m.c ⟨o, s, t, d, a, i, e⟩) (szV o) false).2.2 = true := by simpa using hK
      by_cases hE : (ldA n m.v m.B (plV m.c (adrV m.c ⟨o, s, t, d, a, i, e⟩) (szV o) false).1 (szV o)).E = 0
      · rw [if_neg (by simpa using hE)]; exact Or.inr (Or.inr ⟨hK', hE, rfl⟩)
      · rw [if_pos hE]; exact Or.inr (Or.inl ⟨hK', by simpa using hE, rfl⟩)

theorem storeC_any {w : World} {cb bb p g n cp : Nat} {m : Mc} (h : Mach w cb bb p g n cp m) (o : Int) (s t d a : Nat) (i e : Int) (hs : s < 32) (ht : t < 32) (ho : o = 64 ∨ o = 65 ∨ o = 66 ∨ o = 68) :
    Calls Tryz.prog 62 #[.pointer (some ⟨cb, 0, none⟩), .pointer (some ⟨bb, 0, none⟩), .agg #[.int .i64 o, .int .i64 (s : Int), .int .i64 (t : Int), .int .i64 (d : Int), .int .i64 (a : Int), .int .i64 i]] w fun r w' =>
      r = .returned (.tuple #[.agg (cellsF (storeM n m ⟨o, s, t, d, a, i, e⟩).f), .bool (storeM n m ⟨o, s, t, d, a, i, e⟩).k]) ∧ Mach w' cb bb p g n cp (storeM n m ⟨o, s, t, d, a, i, e⟩).m ∧ Kept [cb, bb, g] w w' := by
  have hA := adrV_w m.c ⟨o, s, t, d, a, i, e⟩
  refine storeC_raw h o s t d a i hs ht ho (adrV m.c ⟨o, s, t, d, a, i, e⟩) (szV o) (plV m.c (adrV m.c ⟨o, s, t, d, a, i, e⟩) (szV o) true).1 (plV m.c (adrV m.c ⟨o, s, t, d, a, i, e⟩) (szV o) true).2.1 (plV m.c (adrV m.c ⟨o, s, t, d, a, i, e⟩) (szV o) true).2.2
    rfl (adr_is m.c o s t d a i e) (fun x hx => place_any hx h.wc _ _ hA (szV_is o) true) (plV_w h.wc hA _ _) (stA n m.v m.B m.D (plV m.c (adrV m.c ⟨o, s, t, d, a, i, e⟩) (szV o) true).1 (szV o) (m.c.R t)).E (stA n m.v m.B m.D (plV m.c (adrV m.c ⟨o, s, t, d, a, i, e⟩) (szV o) true).1 (szV o) (m.c.R t)).v (stA n m.v m.B m.D (plV m.c (adrV m.c ⟨o, s, t, d, a, i, e⟩) (szV o) true).1 (szV o) (m.c.R t)).B (stA n m.v m.B m.D (plV m.c (adrV m.c ⟨o, s, t, d, a, i, e⟩) (szV o) true).1 (szV o) (m.c.R t)).D rfl m.c.lk rfl _ _ rfl rfl _ ?_
  unfold storeM
  dsimp only
  by_cases hK : (plV m.c (adrV m.c ⟨o, s, t, d, a, i, e⟩) (szV o) true).2.2 = false
  · rw [if_pos hK]; exact Or.inl ⟨hK, rfl⟩
  rw [if_neg hK]
  have hK' : (plV m.c (adrV m.c ⟨o, s, t, d, a, i, e⟩) (szV o) true).2.2 = true := by simpa using hK
  by_cases h8 : o = 68
  · cases hl : m.c.lk with
    | false =>
      rw [if_pos ⟨h8, rfl⟩]
      exact Or.inr (Or.inl ⟨hK', h8, rfl, rfl⟩)
    | true =>
      rw [if_neg (by rintro ⟨-, h⟩; cases h)]
      refine Or.inr (Or.inr (Or.inr ⟨hK', h8, rfl, ?_⟩))
      by_cases hE : (stA n m.v m.B m.D (plV m.c (adrV m.c ⟨o, s, t, d, a, i, e⟩) (szV o) true).1 (szV o) (m.c.R t)).E = 0
      · refine Or.inr ⟨hE, ?_⟩
        rw [if_neg (by simpa using hE), if_pos h8]
        rfl
      · refine Or.inl ⟨by simpa using hE, ?_⟩
        rw [if_pos (by simpa using hE)]
  · rw [if_neg (by rintro ⟨h, -⟩; exact h8 h)]
    refine Or.inr (Or.inr (Or.inl ⟨hK', by simpa using h8, ?_⟩))
    by_cases hE : (stA n m.v m.B m.D (plV m.c (adrV m.c ⟨o, s, t, d, a, i, e⟩) (szV o) true).1 (szV o) (m.c.R t)).E = 0
    · refine Or.inr ⟨hE, ?_⟩
      rw [if_neg (by simpa using hE), if_neg h8]
      rfl
    · refine Or.inl ⟨by simpa using hE, ?_⟩
      rw [if_pos (by simpa using hE)]

end Go.Proofs.YtmegghgjllbamaaGreatDoor

/- Layer 13: contract of the program's compute. -/
namespace Go.Proofs.YtmegghgjllbamaaGreatDoor
open Go.RowKit
set_option linter.unusedVariables false
set_option maxRecDepth 100000
set_option linter.unusedSimpArgs false

set_option maxHeartbeats 1500000 in
theorem compute_raw {w : World} {cb : Nat} {c : Cs} (h : Box w cb (cellsC c)) (tb : De.Tabs w) (h2 : 2 ≤ cb) (o : Int) (s t d a : Nat) (i : Int) (X Y V : Int) (D : Nat) (G : Bool) (hD : D < 32)
    (co : ∀ x, Box x cb (cellsC c) → De.Tabs x → Calls Tryz.prog 102 #[.pointer (some ⟨cb, 0, none⟩), .agg #[.int .i64 o, .int .i64 (s : Int), .int .i64 (t : Int), .int .i64 (d : Int), .int .i64 (a : Int), .int .i64 i]] x fun r w' => r = .returned (.tuple #[.int .u32 X, .int .u32 Y, .int .i64 (D : Int)]) ∧ Below x.heap.size x w')
    (cr : ∀ x, Calls Tryz.prog 103 #[.int .i64 o, .int .u32 X, .int .u32 Y] x fun r w' => r = .returned (.tuple #[.int .u32 V, .bool G]) ∧ w' = x) (F : Ft) (C : Cs) (hO : (G = true ∧ F = ftC 12 ∧ C = c) ∨ (G = false ∧ F = F0 ∧ C = putC c D V)) :
    Calls Tryz.prog 63 #[.pointer (some ⟨cb, 0, none⟩), .agg #[.int .i64 o, .int .i64 (s : Int), .int .i64 (t : Int), .int .i64 (d : Int), .int .i64 (a : Int), .int .i64 i]] w fun r w' =>
      r = .returned (.tuple #[.agg (cellsF F), .bool (!G)]) ∧ Box w' cb (cellsC C) ∧ Kept [cb] w w' := by
  obtain ⟨zf1, zf2, zf3, zf4, zf5, zf6, zf7, zf8, zf9, zf10⟩ := ftRules
  obtain ⟨zs1, zs2⟩ := ftMore
  have gA := grow w (.cells #[.int .i64 o, .int .i64 (s : Int), .int .i64 (t : Int), .int .i64 (d : Int), .int .i64 (a : Int), .int .i64 i] 73)
  have gB := grow (w.alloc (.cells #[.int .i64 o, .int .i64 (s : Int), .int .i64 (t : Int), .int .i64 (d : Int), .int .i64 (a : Int), .int .i64 i] 73)) (.cells (cellsF F0) 75)
  have M0 := hide ((h.on gA).on gB)
  have T0 := hide ((tb.on gA).on gB)
  have L0 := hide ((Box.new w #[.int .i64 o, .int .i64 (s : Int), .int .i64 (t : Int), .int .i64 (d : Int), .int .i64 (a : Int), .int .i64 i] 73).on gB)
  have R0 := hide (Box.new (w.alloc (.cells #[.int .i64 o, .int .i64 (s : Int), .int .i64 (t : Int), .int .i64 (d : Int), .int .i64 (a : Int), .int .i64 i] 73)) (cellsF F0) 75)
  have BX := hide (onto gA (Nat.le_refl _) gB)
  rw [show (w.alloc (.cells #[.int .i64 o, .int .i64 (s : Int), .int .i64 (t : Int), .int .i64 (d : Int), .int .i64 (a : Int), .int .i64 i] 73)).heap.size = w.heap.size + 1 by simp] at R0
  have hcc : cb < w.heap.size := h.2.2
  have hw2 : 2 ≤ w.heap.size := tb.n
  replace hO := hide hO
  replace co := hide co
  replace cr := hide cr
  have cq := hide fun x (hx : Box x cb (cellsC c)) => putReg_any hx D hD V
  clear gA gB h tb
  go_enter Tryz.func63, Tryz.ntmps63
  go_wp2_with fail
  refine (co.out _ M0.out T0.out).mono ?_
  rintro r w1 ⟨rfl, b1⟩
  have M1 := hide (M0.out.on b1)
  have L1 := L0.out.on b1
  have R1 := hide (R0.out.on b1)
  have K1 := hide (onto BX.out (Nat.le_refl _) b1)
  clear b1 M0 L0 R0 T0 BX co
  obtain ⟨l1, l2, l3, l4, l5⟩ := L1.cells
  go_wp2_with fail
  refine (cr.out _).mono ?_
  rintro r w2 ⟨rfl, rfl⟩
  rcases hO.out with ⟨rfl, rfl, rfl⟩ | ⟨rfl, rfl, rfl⟩
  · have hst := fun f => (R1.out.last0 f).1
    have hld := hide fun f => (R1.out.last0 f).2
    go_wp2
    exact bodyPost_ret (v := .tuple #[.agg (cellsF (ftC 12)), .bool false]) (by simp [results, Tryz.results63, go_sem, zf1, zf5, hld.out]; rfl) rfl ⟨rfl, M1.out.far (w.heap.size + 1) _ (by omega), (Kept.of (l := [cb]) K1.out).late (w.heap.size + 1) _ (by omega)⟩
  · go_wp2_with fail
    refine (cq.out _ M1.out).mono ?_
    rintro r x2 ⟨rfl, hw⟩
    have M4 : Hid (Box x2 cb (cellsC (putC c D V))) := (by rw [hw]; exact hide (M1.out.set _))
    have K4 : Hid (Kept [cb] w x2) := (by rw [hw]; exact hide ((Kept.of (l := [cb]) K1.out).trans (Kept.set _ cb _ (by simp))))
    have R4 : Hid (Box x2 (w.heap.size + 1) (cellsF F0)) := (by rw [hw]; exact hide (R1.out.far cb _ (by omega)))
    clear hw l1 l2 l3 l4 l5
    have hst := fun f => (R4.out.last0 f).1
    have hld := hide fun f => (R4.out.last0 f).2
    go_wp2
    exact bodyPost_ret (v := .tuple #[.agg (cellsF F0), .bool true]) (by simp [results, Tryz.results63, go_sem, zf1, zf5, hld.out]) rfl ⟨rfl, M4.out.far (w.heap.size + 1) _ (by omega), K4.out.late (w.heap.size + 1) _ (by omega)⟩

end Go.Proofs.YtmegghgjllbamaaGreatDoor

/- Layer 13: contract of the program's fetch. -/
namespace Go.Proofs.YtmegghgjllbamaaGreatDoor
open Go.RowKit
set_option linter.unusedVariables false
set_option maxRecDepth 100000
set_option linter.unusedSimpArgs false

/-- Six, so spelt that no walk opens a row of them. -/
def N6 : Nat := 6

theorem sizeIn (w : World) : (sizeOf 73).run Tryz.prog w = .ok N6 w := Tryz.sizeOf73 w
theorem zeroIn (w : World) : (zeroValue 73).run Tryz.prog w = .ok (.agg (cellsI I0)) w := Tryz.zeroValue73 w

/-- What walks over instructions are told. -/
theorem insRules : (∀ w : World, (sizeOf 73).run Tryz.prog w = .ok N6 w) ∧ (∀ w : World, (zeroValue 73).run Tryz.prog w = .ok (.agg (cellsI I0)) w) ∧ (∀ f : Ins, (cellsI f).size = N6) ∧ (∀ f : Ins, ones (cellsI f) = true) ∧ ¬ N6 = 0 ∧
    (∀ f q : Ins, placed (cellsI f) 0 (cellsI q) = cellsI q) ∧ (∀ f : Ins, fitsP (cellsI f) 0 N6 = true) ∧ (∀ f : Ins, part (cellsI f) 0 N6 = cellsI f) ∧ ¬ N6 < 2 ∧ ¬ cellsI I0 = #[] ∧ (∀ f : Ins, (cellsI f)[0]? = some (.int .i64 f.o)) :=
  ⟨sizeIn, zeroIn, fun _ => rfl, fun _ => rfl, by decide, fun _ _ => rfl, fun _ => rfl, fun _ => rfl, by decide, by simp [cellsI], fun _ => rfl⟩

/-- The two boxes of fetch's results. -/
theorem ends {w x : World} {l r n : Nat} {I : Ins} {f : Ft} (L : Box x l (cellsI I)) (R : Box x r (cellsF f)) (hlr : l ≠ r) (hb : Below n w x) (hl : n ≤ l) (hr : n ≤ r) (J : Ins) (q : Ft) :
    (storeCells ⟨l, 0, none⟩ (cellsI J).toList 0).run Tryz.prog x = .ok () (x.setRow l (cellsI J)) ∧ (storeCells ⟨r, 0, none⟩ (cellsF q).toList 0).run Tryz.prog (x.setRow l (cellsI J)) = .ok () ((x.setRow l (cellsI J)).setRow r (cellsF q)) ∧
      (loadCellsFrom ⟨l, 0, none⟩ 0 N6 #[]).run Tryz.prog ((x.setRow l (cellsI J)).setRow r (cellsF q)) = .ok (cellsI J) ((x.setRow l (cellsI J)).setRow r (cellsF q)) ∧
      (loadCellsFrom ⟨r, 0, none⟩ 0 NF #[]).run Tryz.prog ((x.setRow l (cellsI J)).setRow r (cellsF q)) = .ok (cellsF q) ((x.setRow l (cellsI J)).setRow r (cellsF q)) ∧ Below n w ((x.setRow l (cellsI J)).setRow r (cellsF q)) := by
  have R1 := R.far l (cellsI J) hlr.symm
  have L1 := (L.set (cellsI J)).far r (cellsF q) hlr
  refine ⟨?_, ?_, L1.loads 0 N6 rfl rfl, (R1.set _).loads 0 NF rfl rfl, below_setRow (below_setRow hb hl _) hr _⟩
  · have := store_part x l 0 (cellsI J) L.1 (by rw [L.2.1]; rfl) rfl
    rw [L.2.1] at this
    exact this
  · have := store_part (x.setRow l (cellsI J)) r 0 (cellsF q) R1.1 (by rw [R1.2.1]; rfl) rfl
    rw [R1.2.1] at this
    exact this

theorem putNew (w : World) (J : Ins) : (storeCells ⟨w.heap.size, 0, none⟩ (cellsI J).toList 0).run Tryz.prog (w.alloc (.cells (cellsI I0) 73)) = .ok () (w.alloc (.cells (cellsI J) 73)) := by
  have b := Box.new w (cellsI I0) 73
  have := store_part (w.alloc (.cells (cellsI I0) 73)) w.heap.size 0 (cellsI J) b.1 (by rw [b.2.1]; rfl) rfl
  rw [b.2.1, World.setRow_alloc_new] at this
  exact this

set_option maxHeartbeats 1500000 in
set_option maxRecDepth 100000 in
theorem fetch_raw {w : World} {cb bb p g n cp : Nat} {m : Mc} (h : Mach w cb bb p g n cp m) (P : Int) (F : Ft) (K : Bool) (hPw : Cp.W32 P)
    (cpl : ∀ x, Box x cb (cellsC m.c) → Calls Tryz.prog 51 #[.pointer (some ⟨cb, 0, none⟩), .int .u32 m.c.pc, .int .i64 4, .bool false] x fun r w' => r = .returned (.tuple #[.int .u32 P, .agg (cellsF F), .bool K]) ∧ Below x.heap.size x w')
    (X : Int) (Y : Bool) (hX : memX n m.B P 4 = X) (hY : decide (mayI n P 4) = Y) (J : Ins) (cd : ∀ x, De.Tabs x → Calls Tryz.prog 39 #[.int .u32 X] x fun r w' => r = .returned (.tuple #[.agg (cellsI J), .int .i64 J.e]) ∧ Below x.heap.size x w')
    (S U : Bool) (hS : sysOp J.o = S) (hU : Cp.userV m.c.C = U) (O : Ins × Ft × Bool)
    (hO : (K = false ∧ O = (I0, F, false)) ∨ (K = true ∧ Y = false ∧ O = (I0, ftC 6, false)) ∨ (K = true ∧ Y = true ∧ (J.e == 0) = false ∧ O = (I0, ftC 10, false)) ∨
      (K = true ∧ Y = true ∧ J.e = 0 ∧ S = true ∧ U = true ∧ O = (I0, ftC 10, false)) ∨ (K = true ∧ Y = true ∧ J.e = 0 ∧ S = true ∧ U = false ∧ O = (J, F0, true)) ∨ (K = true ∧ Y = true ∧ J.e = 0 ∧ S = false ∧ O = (J, F0, true))) :
    Calls Tryz.prog 24 #[.pointer (some ⟨cb, 0, none⟩), .pointer (some ⟨bb, 0, none⟩)] w fun r w' =>
      r = .returned (.tuple #[.agg (cellsI O.1), .agg (cellsF O.2.1), .bool O.2.2]) ∧ Below w.heap.size w w' := by
  obtain ⟨t1, t2, t3, t4, t5, t6, t7, t8, t9⟩ := rowRules
  obtain ⟨zf1, zf2, zf3, zf4, zf5, zf6, zf7, zf8, zf9, zf10⟩ := ftRules
  obtain ⟨zs1, zs2⟩ := ftMore
  obtain ⟨zi1, zi2, zi3, zi4, zi5, zi6, zi7, zi8, zi9, zi10, zi11⟩ := insRules
  obtain ⟨p0, p1, p2, p3, p4, p5, p6, p7, p8, p9⟩ := cParts
  have gA := grow w (.cells (cellsI I0) 73)
  have gB := grow (w.alloc (.cells (cellsI I0) 73)) (.cells (cellsF F0) 75)
  have M0 := hide ((h.on gA).on gB)
  have L0 := hide ((Box.new w (cellsI I0) 73).on gB)
  have R0 := hide (Box.new (w.alloc (.cells (cellsI I0) 73)) (cellsF F0) 75)
  have BX := hide (onto gA (Nat.le_refl _) gB)
  rw [show (w.alloc (.cells (cellsI I0) 73)).heap.size = w.heap.size + 1 by simp] at R0
  obtain ⟨r1, r2, r3, r4, r5⟩ := h.bx.cells
  have hcc : cb < w.heap.size := h.bx.2.2
  have hw2 : 2 ≤ w.heap.size := h.tb.n
  replace hO := hide hO
  replace cpl := hide cpl
  replace cd := hide cd
  replace hS := hide hS
  replace hU := hide hU
  clear gA gB h
  go_enter Tryz.func24, Tryz.ntmps24
  go_wp2_with fail
  refine (cpl.out _ M0.out.bx).mono ?_
  rintro r w1 ⟨rfl, b1⟩
  have M1 := hide (M0.out.on b1)
  have L1 := hide (L0.out.on b1)
  have R1 := hide (R0.out.on b1)
  have K1 := hide (onto BX.out (Nat.le_refl _) b1)
  clear b1 M0 L0 R0 BX cpl r1 r2 r3 r4 r5
  have gF := grow w1 (.cells (cellsF F) 75)
  have M2 := hide (M1.out.on gF)
  have L2 := hide (L1.out.on gF)
  have R2 := hide (R1.out.on gF)
  have FB := hide (Box.new w1 (cellsF F) 75)
  have K2 := hide (onto K1.out (Nat.le_refl _) gF)
  clear gF M1
  have hlw : w.heap.size + 1 < w1.heap.size := R1.out.2.2
  clear L1 R1 K1
  rcases hO.out with ⟨rfl, rfl⟩ | ⟨rfl, rfl, rfl⟩ | ⟨rfl, rfl, e0, rfl⟩ | ⟨rfl, rfl, e0, rfl, rfl, rfl⟩ | ⟨rfl, rfl, e0, rfl, rfl, rfl⟩ | ⟨rfl, rfl, e0, rfl, rfl⟩
  · go_wp2_with fail
    generalize w1.alloc (.cells (cellsF F) 75) = x at *
    have ldF := FB.out.drew.loads (d := cellsF F) 0 NF rfl rfl
    have ldG := fun J => (FB.out.drew.far w.heap.size (cellsI J) (by omega)).loads (d := cellsF F) 0 NF rfl rfl
    clear t1 t2 t3 t4 t5 t6 t7 t8 t9
    have nn := fun J q => ends (n := w.heap.size) L2.out.drew R2.out.drew (by omega) K2.out.drew (by omega) (by omega) J q
    have n1 := fun J => (nn J F0).1
    have n2 := fun J q => (nn J q).2.1
    have n3 := fun J q => (nn J q).2.2.1
    have n4 := fun J q => (nn J q).2.2.2.1
    have n5 := hide fun J q => (nn J q).2.2.2.2
    clear nn
    go_region
    go_wp2
    exact bodyPost_ret (v := .tuple #[.agg (cellsI I0), .agg (cellsF F), .bool false]) (by simp [results, Tryz.results24, go_sem, zf1, zf5, zi1, zi5, n3, n4]; try rfl) rfl ⟨rfl, n5.out _ _⟩
  · have cp := hide (peek_is M2.out.bus P hPw.1 hPw.2)
    rw [hX, hY] at cp
    go_wp2_with fail
    refine cp.out.mono ?_
    rintro r w2 ⟨rfl, rfl⟩
    generalize w1.alloc (.cells (cellsF F) 75) = x at *
    have nn := fun J q => ends (n := w.heap.size) L2.out R2.out (by omega) K2.out (by omega) (by omega) J q
    have n1 := fun J => (nn J F0).1
    have n2 := fun J q => (nn J q).2.1
    have n3 := fun J q => (nn J q).2.2.1
    have n4 := fun J q => (nn J q).2.2.2.1
    have n5 := hide fun J q => (nn J q).2.2.2.2
    clear nn
    clear t1 t2 t3 t4 t5 t6 t7 t8 t9
    go_wp2
    exact bodyPost_ret (v := .tuple #[.agg (cellsI I0), .agg (cellsF (ftC 6)), .bool false]) (by simp [results, Tryz.results24, go_sem, zf1, zf5, zi1, zi5, n3, n4]; try rfl) rfl ⟨rfl, n5.out _ _⟩
  · have cp := hide (peek_is M2.out.bus P hPw.1 hPw.2)
    rw [hX, hY] at cp
    go_wp2_with fail
    refine cp.out.mono ?_
    rintro r w2 ⟨rfl, rfl⟩
    go_wp2_with fail
    refine (cd.out _ M2.out.tb).mono ?_
    rintro r w3 ⟨rfl, b3⟩
    have gI := grow w3 (.cells (cellsI J) 73)
    have M3 := hide ((M2.out.on b3).on gI)
    have L3 := hide ((L2.out.on b3).on gI)
    have R3 := hide ((R2.out.on b3).on gI)
    have I3 := hide (Box.new w3 (cellsI J) 73)
    have K3 := hide (onto (onto K2.out (Nat.le_refl _) b3) (Nat.le_refl _) gI)
    clear gI b3 M2 L2 R2 K2 FB cd cp
    clear t1 t2 t3 t4 t5 t6 t7 t8 t9
    have hpn := putNew w3 J
    have e1 : (J.e != 0) = true := by simpa using e0
    have e2 : ¬ J.e = 0 := by simpa using e0
    have nn := fun J q => ends (n := w.heap.size) L3.out R3.out (by omega) K3.out (by omega) (by omega) J q
    have n1 := fun J => (nn J F0).1
    have n2 := fun J q => (nn J q).2.1
    have n3 := fun J q => (nn J q).2.2.1
    have n4 := fun J q => (nn J q).2.2.2.1
    have n5 := hide fun J q => (nn J q).2.2.2.2
    clear nn
    go_wp2
    exact bodyPost_ret (v := .tuple #[.agg (cellsI I0), .agg (cellsF (ftC 10)), .bool false]) (by simp [results, Tryz.results24, go_sem, zf1, zf5, zi1, zi5, n3, n4]; try rfl) rfl ⟨rfl, n5.out _ _⟩
  · have cp := hide (peek_is M2.out.bus P hPw.1 hPw.2)
    rw [hX, hY] at cp
    go_wp2_with fail
    refine cp.out.mono ?_
    rintro r w2 ⟨rfl, rfl⟩
    go_wp2_with fail
    refine (cd.out _ M2.out.tb).mono ?_
    rintro r w3 ⟨rfl, b3⟩
    have gI := grow w3 (.cells (cellsI J) 73)
    have M3 := hide ((M2.out.on b3).on gI)
    have L3 := hide ((L2.out.on b3).on gI)
    have R3 := hide ((R2.out.on b3).on gI)
    have I3 := hide (Box.new w3 (cellsI J) 73)
    have K3 := hide (onto (onto K2.out (Nat.le_refl _) b3) (Nat.le_refl _) gI)
    clear gI b3 M2 L2 R2 K2 FB cd cp
    have cs := hide (isSystems_any J.o _ M3.out.tb)
    rw [hS.out] at cs
    go_wp2_with fail
    refine cs.out.mono ?_
    rintro r w4 ⟨rfl, b4⟩
    have M4 := hide (M3.out.on b4)
    have L4 := hide (L3.out.on b4)
    have R4 := hide (R3.out.on b4)
    have I4 := hide (I3.out.on b4)
    have K4 := hide (onto K3.out (Nat.le_refl _) b4)
    clear b4 M3 L3 R3 I3 K3 cs
    have cu := hide fun x => Cp.user_any M4.out.wc.C x
    rw [hU.out] at cu
    have ld38 := M4.out.bx.loads (d := Cp.cellsR m.c.C) 38 Cp.N9 rfl rfl
    obtain ⟨z1, z2, z3, z4, z5, z6, z7, z8, z9, z10, z11, z12, z13, z14, z15⟩ := cSizes
    go_wp2_with fail
    refine (cu.out _).mono ?_
    rintro r w5 ⟨rfl, b5⟩
    have L5 := hide (L4.out.on b5)
    have R5 := hide (R4.out.on b5)
    have I5 := hide (I4.out.on b5)
    have K5 := hide (onto K4.out (Nat.le_refl _) b5)
    clear b5 M4 L4 R4 I4 K4 cu ld38 z1 z2 z3 z4 z5 z6 z7 z8 z9 z10 z11 z12 z13 z14 z15
    have nn := fun J q => ends (n := w.heap.size) L5.out R5.out (by omega) K5.out (by omega) (by omega) J q
    have n1 := fun J => (nn J F0).1
    have n2 := fun J q => (nn J q).2.1
    have n3 := fun J q => (nn J q).2.2.1
    have n4 := fun J q => (nn J q).2.2.2.1
    have n5 := hide fun J q => (nn J q).2.2.2.2
    clear nn
    clear t1 t2 t3 t4 t5 t6 t7 t8 t9
    go_wp2
    exact bodyPost_ret (v := .tuple #[.agg (cellsI I0), .agg (cellsF (ftC 10)), .bool false]) (by simp [results, Tryz.results24, go_sem, zf1, zf5, zi1, zi5, n3, n4]; try rfl) rfl ⟨rfl, n5.out _ _⟩
  · have cp := hide (peek_is M2.out.bus P hPw.1 hPw.2)
    rw [hX, hY] at cp
    go_wp2_with fail
    refine cp.out.mono ?_
    rintro r w2 ⟨rfl, rfl⟩
    go_wp2_with fail
    refine (cd.out _ M2.out.tb).mono ?_
    rintro r w3 ⟨rfl, b3⟩
    have gI := grow w3 (.cells (cellsI J) 73)
    have M3 := hide ((M2.out.on b3).on gI)
    have L3 := hide ((L2.out.on b3).on gI)
    have R3 := hide ((R2.out.on b3).on gI)
    have I3 := hide (Box.new w3 (cellsI J) 73)
    have K3 := hide (onto (onto K2.out (Nat.le_refl _) b3) (Nat.le_refl _) gI)
    clear gI b3 M2 L2 R2 K2 FB cd cp
    have cs := hide (isSystems_any J.o _ M3.out.tb)
    rw [hS.out] at cs
    go_wp2_with fail
    refine cs.out.mono ?_
    rintro r w4 ⟨rfl, b4⟩
    have M4 := hide (M3.out.on b4)
    have L4 := hide (L3.out.on b4)
    have R4 := hide (R3.out.on b4)
    have I4 := hide (I3.out.on b4)
    have K4 := hide (onto K3.out (Nat.le_refl _) b4)
    clear b4 M3 L3 R3 I3 K3 cs
    have cu := hide fun x => Cp.user_any M4.out.wc.C x
    rw [hU.out] at cu
    have ld38 := M4.out.bx.loads (d := Cp.cellsR m.c.C) 38 Cp.N9 rfl rfl
    obtain ⟨z1, z2, z3, z4, z5, z6, z7, z8, z9, z10, z11, z12, z13, z14, z15⟩ := cSizes
    go_wp2_with fail
    refine (cu.out _).mono ?_
    rintro r w5 ⟨rfl, b5⟩
    have L5 := hide (L4.out.on b5)
    have R5 := hide (R4.out.on b5)
    have I5 := hide (I4.out.on b5)
    have K5 := hide (onto K4.out (Nat.le_refl _) b5)
    clear b5 M4 L4 R4 I4 K4 cu ld38 z1 z2 z3 z4 z5 z6 z7 z8 z9 z10 z11 z12 z13 z14 z15
    have ldI := I5.out.loads (d := cellsI J) 0 N6 rfl rfl
    have hIB := I5.out.2.2
    have ldI := I5.out.drew.loads (d := cellsI J) 0 N6 rfl rfl
    have nn := fun J q => ends (n := w.heap.size) L5.out R5.out (by omega) K5.out (by omega) (by omega) J q
    have n1 := fun J => (nn J F0).1
    have n2 := fun J q => (nn J q).2.1
    have n3 := fun J q => (nn J q).2.2.1
    have n4 := fun J q => (nn J q).2.2.2.1
    have n5 := hide fun J q => (nn J q).2.2.2.2
    clear nn
    clear t1 t2 t3 t4 t5 t6 t7 t8 t9
    go_wp2
    exact bodyPost_ret (v := .tuple #[.agg (cellsI J), .agg (cellsF F0), .bool true]) (by simp [results, Tryz.results24, go_sem, zf1, zf5, zi1, zi5, n3, n4]; try rfl) rfl ⟨rfl, n5.out _ _⟩
  · have cp := hide (peek_is M2.out.bus P hPw.1 hPw.2)
    rw [hX, hY] at cp
    go_wp2_with fail
    refine cp.out.mono ?_
    rintro r w2 ⟨rfl, rfl⟩
    go_wp2_with fail
    refine (cd.out _ M2.out.tb).mono ?_
    rintro r w3 ⟨rfl, b3⟩
    have gI := grow w3 (.cells (cellsI J) 73)
    have M3 := hide ((M2.out.on b3).on gI)
    have L3 := hide ((L2.out.on b3).on gI)
    have R3 := hide ((R2.out.on b3).on gI)
    have I3 := hide (Box.new w3 (cellsI J) 73)
    have K3 := hide (onto (onto K2.out (Nat.le_refl _) b3) (Nat.le_refl _) gI)
    clear gI b3 M2 L2 R2 K2 FB cd cp
    have cs := hide (isSystems_any J.o _ M3.out.tb)
    rw [hS.out] at cs
    go_wp2_with fail
    refine cs.out.mono ?_
    rintro r w4 ⟨rfl, b4⟩
    have M4 := hide (M3.out.on b4)
    have L4 := hide (L3.out.on b4)
    have R4 := hide (R3.out.on b4)
    have I4 := hide (I3.out.on b4)
    have K4 := hide (onto K3.out (Nat.le_refl _) b4)
    clear b4 M3 L3 R3 I3 K3 cs
    have ldI := I4.out.loads (d := cellsI J) 0 N6 rfl rfl
    have nn := fun J q => ends (n := w.heap.size) L4.out R4.out (by omega) K4.out (by omega) (by omega) J q
    have n1 := fun J => (nn J F0).1
    have n2 := fun J q => (nn J q).2.1
    have n3 := fun J q => (nn J q).2.2.1
    have n4 := fun J q => (nn J q).2.2.2.1
    have n5 := hide fun J q => (nn J q).2.2.2.2
    clear nn
    clear t1 t2 t3 t4 t5 t6 t7 t8 t9
    go_wp2
    exact bodyPost_ret (v := .tuple #[.agg (cellsI J), .agg (cellsF F0), .bool true]) (by simp [results, Tryz.results24, go_sem, zf1, zf5, zi1, zi5, n3, n4]; try rfl) rfl ⟨rfl, n5.out _ _⟩

theorem fetch_any {w : World} {cb bb p g n cp : Nat} {m : Mc} (h : Mach w cb bb p g n cp m) :
    Calls Tryz.prog 24 #[.pointer (some ⟨cb, 0, none⟩), .pointer (some ⟨bb, 0, none⟩)] w fun r w' =>
      r = .returned (.tuple #[.agg (cellsI (ftV n m.c m.B).1), .agg (cellsF (ftV n m.c m.B).2.1), .bool (ftV n m.c m.B).2.2]) ∧ Below w.heap.size w w' := by
  have hX := memX_w (n := n) h.bus.m.lt (plV m.c m.c.pc 4 false).1 4
  refine fetch_raw h (plV m.c m.c.pc 4 false).1 (plV m.c m.c.pc 4 false).2.1 (plV m.c m.c.pc 4 false).2.2 (plV_w h.wc h.wc.pc _ _) (fun x hx => place_any hx h.wc _ 4 h.wc.pc (Or.inr (Or.inr rfl)) false)
    (memX n m.B (plV m.c m.c.pc 4 false).1 4) (decide (mayI n (plV m.c m.c.pc 4 false).1 4)) rfl rfl (decV (memX n m.B (plV m.c m.c.pc 4 false).1 4)) (fun x tx => decode_fn _ hX x tx) _ _ rfl rfl _ ?_
  unfold ftV
  generalize memX n m.B (plV m.c m.c.pc 4 false).1 4 = X at *
  by_cases hK : (plV m.c m.c.pc 4 false).2.2 = false
  · rw [if_pos hK]; exact Or.inl ⟨hK, rfl⟩
  rw [if_neg hK]
  have hK' : (plV m.c m.c.pc 4 false).2.2 = true := by simpa using hK
  by_cases hY : mayI n (plV m.c m.c.pc 4 false).1 4
  · have hY' : decide (mayI n (plV m.c m.c.pc 4 false).1 4) = true := by simpa using hY
    rw [if_neg (by simpa using hY)]
    by_cases hE : (decV X).e = 0
    · cases hS : sysOp (decV X).o with
      | true =>
        cases hU : Cp.userV m.c.C with
        | true =>
          rw [if_pos (Or.inr ⟨rfl, rfl⟩)]
          exact Or.inr (Or.inr (Or.inr (Or.inl ⟨hK', hY', hE, rfl, rfl, rfl⟩)))
        | false =>
          rw [if_neg (by rintro (h | ⟨-, h⟩); exact h hE; cases h)]
          exact Or.inr (Or.inr (Or.inr (Or.inr (Or.inl ⟨hK', hY', hE, rfl, rfl, rfl⟩))))
      | false =>
        rw [if_neg (by rintro (h | ⟨h, -⟩); exact h hE; cases h)]
        exact Or.inr (Or.inr (Or.inr (Or.inr (Or.inr ⟨hK', hY', hE, rfl, rfl⟩))))
    · rw [if_pos (Or.inl hE)]
      exact Or.inr (Or.inr (Or.inl ⟨hK', hY', by simpa using hE, rfl⟩))
  · have hY' : decide (mayI n (plV m.c m.c.pc 4 false).1 4) = false := by simpa using hY
    rw [if_pos hY]
    exact Or.inr (Or.inl ⟨hK', hY', rfl⟩)

end Go.Proofs.YtmegghgjllbamaaGreatDoor
