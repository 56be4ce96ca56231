/- A user's program never comes to the system's registers but by an exception: as long as none is raised, Status and the buffer stay what they are. -/
import Derived.Test.YthjcijlabpinkaaGreatDoorPCuBegan
namespace Go.Proofs.YthjcijlabpinkaaGreatDoor
open Go.RowKit
set_option linter.unusedVariables false
set_option maxRecDepth 100000
set_option linter.unusedSimpArgs false

theorem w2 : Cp.W32 2 := ⟨by decide, by decide⟩
theorem w3 : Cp.W32 3 := ⟨by decide, by decide⟩
theorem w16 : Cp.W32 16 := ⟨by decide, by decide⟩

theorem usr_is {s : Int} (h : Cp.W32 s) : ∃ x, bits .or .u32 (bits .andNot .u32 s 3) 16 = x ∧ Cp.W32 x ∧ Cp.bit x 0 = false ∧ Cp.bit x 1 = false ∧ Cp.bit x 4 = true := by
  have e1 : bits .andNot .u32 s 3 = Cp.mixV s 0 3 := Cp.not_of h w3
  have e2 : bits .or .u32 (Cp.mixV s 0 3) 16 = Cp.mixV (Cp.mixV s 0 3) 16 16 := Cp.or_of (Cp.mix_w w3) w16
  refine ⟨_, by rw [e1, e2], Cp.mix_w w16, ?_, ?_, ?_⟩
  · rw [Cp.bit_mix w16 0 (by omega), Cp.bit_mix w3 0 (by omega)]; rfl
  · rw [Cp.bit_mix w16 1 (by omega), Cp.bit_mix w3 1 (by omega)]; rfl
  · rw [Cp.bit_mix w16 4 (by omega)]; rfl

theorem clr2 {s : Int} (hs : Cp.W32 s) (h1 : Cp.bit s 1 = false) : Cp.mixV s 0 2 = s := by
  refine Cp.bit_ext (Cp.mix_w w2) hs fun i hi => ?_
  rw [Cp.bit_mix w2 i hi, Cp.bit_zero]
  have e : Cp.bit 2 i = decide (i = 1) := by
    have := (by decide +kernel : ∀ i < 32, Cp.bit 2 i = decide (i = 1)) i hi
    exact this
  rw [e]
  by_cases h : i = 1
  · subst h; simp [h1]
  · simp [h]

theorem and2 {a : Int} (ha : Cp.W32 a) : bits .and .u32 a 2 = if Cp.bit a 1 then 2 else 0 := Cp.and_bit ha 1 (by omega)

theorem usr_no {s : Int} (hs : Cp.W32 s) (h1 : Cp.bit s 1 = false) : bits .andNot .u32 s 2 = s ∧ bits .and .u32 s 2 = 0 := by
  rw [Cp.not_of hs w2, clr2 hs h1, and2 hs, h1]
  exact ⟨rfl, rfl⟩

theorem usr_yes {s : Int} (hs : Cp.W32 s) (h1 : Cp.bit s 1 = false) : bits .andNot .u32 (Cp.mixV s 2 2) 2 = s ∧ bits .and .u32 (Cp.mixV s 2 2) 2 = 2 := by
  have hm : Cp.W32 (Cp.mixV s 2 2) := Cp.mix_w w2
  rw [Cp.not_of hm w2, Cp.mix_mix w2, clr2 hs h1, and2 hm, Cp.bit_mix w2 1 (by omega)]
  exact ⟨rfl, rfl⟩

theorem sizeX (w : World) : (sizeOf 23).run Tryz.prog w = .ok N32 w := Tryz.sizeOf23 w

structure Usr (m : Mc) : Prop where
  b0 : Cp.bit m.c.C.s 0 = false
  b1 : Cp.bit m.c.C.s 1 = false
  b4 : Cp.bit m.c.C.s 4 = true

set_option maxHeartbeats 4000000 in
set_option maxRecDepth 100000 in
theorem user_walk (w : World) (c : Cs) (sw : Value) (dev : ByteArray) (se : Value) (st : Int) (zs : List Int) (es : List Ev) (hc : Wc c) (hw : IsWords w sw zs) (hd : dev.size ≤ maxLen) (he : IsEvents w se es) (hst : (Lit.int .i64 st).wf = true) (tb : De.Tabs w) :
    Calls Tryz.prog 8 #[.agg (cellsWo c sw dev se st)] w fun e w' => e = .returned (.bool true) ∧ Below w.heap.size w w' := by
  obtain ⟨z1, z2, z3, z4, z5, z6, z7, z8, z9, z10, z11, z12, z13, z14, z15⟩ := cSizes
  obtain ⟨t1, t2, t3, t4, t5, t6, t7, t8, t9⟩ := rowRules
  obtain ⟨f1, f2, f3, f4, f5, f6, f7, f8, f9⟩ := cWhole
  obtain ⟨zw, zw0⟩ := woRules
  obtain ⟨q, f, hq, -, cs1, cs2⟩ := sets_same dev hd V0 V0_w
  have b0 := hide (grow w (.cells (cellsWo c sw dev se st) 41))
  have hw1 : IsWords (w.alloc (.cells (cellsWo c sw dev se st) 41)) sw zs := hw.on b0.out
  have cl := hide (laid_any _ c sw se dev st zs hw1 q f hq cs1 cs2)
  have cg := hide (fun x => began_any x c sw se dev st)
  have hdw := hide (zed_w hc)
  have hd0 := hide (zed_0 c)
  generalize zed c = d at *
  have X0 := hide (Box.new w (cellsWo c sw dev se st) 41)
  have tb0 := hide (tb.on b0.out)
  obtain ⟨-, -, -, g66, -, -⟩ := woParts c sw dev se st
  obtain ⟨y1, y2⟩ := woWhole c sw dev se st
  generalize cellsWo c sw dev se st = CW at *
  clear hw hw1 hd he hq cs1 cs2 tb hc
  go_enter Tryz.func8, Tryz.ntmps8
  go_wp2_with fail
  generalize w.alloc (.cells CW 41) = W0 at *
  refine cl.out.mono ?_
  rintro e w1 ⟨b, p, g, b', p', gb, gd, rfl, S⟩
  generalize fillW zs (min zs.length 512) = BB at *
  generalize markW (min zs.length 512) = DD at *
  have X1 := X0.out.on S.o1.be
  replace S := hide S
  clear cl
  obtain ⟨r1, r2, r3⟩ := X1
  go_wp2_with fail
  refine (cg.out _).mono ?_
  rintro e w2 ⟨rfl, b2⟩
  obtain ⟨x, hx, xw, x0, x1, x4⟩ := usr_is hdw.out.C.s
  have k44 : (cellsC d)[44]? = some (.int .u32 d.C.s) := rfl
  have s44 : ∀ v : Int, (cellsC d).setIfInBounds 44 (.int .u32 v) = cellsC { d with C := { d.C with s := v } } := fun _ => rfl
  have hdx : Wc { d with C := { d.C with s := x } } := ⟨hdw.out.pc, hdw.out.nx, hdw.out.R, hdw.out.hi, hdw.out.lo, ⟨hdw.out.C.i, hdw.out.C.l, hdw.out.C.b, hdw.out.C.n, hdw.out.C.h, hdw.out.C.p, xw, hdw.out.C.c, hdw.out.C.e⟩, hdw.out.T⟩
  have U0 : Hid (MOwn W0 (w2.alloc (.cells (cellsC { d with C := { d.C with s := x } }) 31)) w2.heap.size b p g ⟨{ d with C := { d.C with s := x } }, q, BB, DD⟩) := hide (MOwn.made S.out b2 tb0.out hdx hd0.out _)
  have U1 : Hid (Usr ⟨{ d with C := { d.C with s := x } }, q, BB, DD⟩) := hide ⟨x0, x1, x4⟩
  have X2 : Hid (Box W0 w.heap.size CW) := X0
  clear S b2 cg xw x0 x1 x4 hdw hd0 r1 r2 r3 hdx X0
  go_wp2_with fail
  generalize w2.heap.size = Lc at *
  generalize w2.alloc (.cells (cellsC { d with C := { d.C with s := x } }) 31) = w3 at *
  clear k44 s44
  go_loopw [6] (fun i wr => ∃ (k : Nat) (m : Mc), k ≤ 200 ∧ i = .int .i64 k ∧ Hid (MOwn W0 wr Lc b p g m) ∧ Hid (Usr m)) (fun i _ => 200 - (intOf i).toNat)
  case atStart => exact ⟨0, _, by omega, rfl, U0, U1⟩
  case round =>
    clear U0 U1
    obtain ⟨k, m, hk, rfl, O, U⟩ := hrel
    have l66 : wr.cell? ⟨w.heap.size, 66, none⟩ = some (.int .i64 st) := by rw [(X2.out.on O.out.be).cell]; exact g66
    by_cases hc : (k : Int) < st ∧ (k : Int) < 200
    · obtain ⟨h1, h2⟩ := hc
      have d1 : decide ((k : Int) < st) = true := by simpa using h1
      have d2 : decide ((k : Int) < 200) = true := by simpa using h2
      obtain ⟨r1, r2, r3⟩ := O.out.ma.bx
      go_wp2_with fail
      have g1 := grow wr (.cells (cellsC m.c) 31)
      have Xw := Box.new wr (cellsC m.c) 31
      have O1 := O.out.on g1
      have hne : ¬ wr.heap.size = Lc ∧ ¬ wr.heap.size = b ∧ ¬ wr.heap.size = g := by
        have := O.out.ma.bx.2.2
        have := O.out.ma.bus.lt
        have := O.out.ma.bus.m.zg
        omega
      clear r1 r2 r3 l66 O g1
      generalize wr.heap.size = Lw at *
      generalize wr.alloc (.cells (cellsC m.c) 31) = y1 at *
      have cst := hide (step_any O1.ma O1.z)
      obtain ⟨u1, u2', u3', u4'⟩ := step_user 8 m U.out.b0 U.out.b1 U.out.b4
      have hsw := O1.ma.wc.C.s
      have nof := usr_no hsw U.out.b1
      have yes := usr_yes hsw U.out.b1
      have hUn : Hid ((stepM 8 m).c.C.s = m.c.C.s → Usr (stepM 8 m)) := hide (fun e => ⟨by rw [e]; exact U.out.b0, by rw [e]; exact U.out.b1, by rw [e]; exact U.out.b4⟩)
      refine cst.out.mono ?_
      rintro e y2 ⟨rfl, M2, K2⟩
      have O2 := hide (O1.step M2 K2)
      replace Xw := Xw.kept K2 (by simp [hne])
      have X2' := M2.bx
      have n1 := M2.wc.C.s
      generalize stepM 8 m = m' at *
      clear cst M2 K2 O1
      have l47 := X2'.loads 47 Tl.N16 (f2 m'.c) (f5 m'.c)
      have l47w := Xw.loads 47 Tl.N16 (f2 m.c) (f5 m.c)
      have l3 := X2'.loads 3 N32 (d := cellsX m'.c.R) rfl rfl
      have l3w := Xw.loads 3 N32 (d := cellsX m.c.R) rfl rfl
      have l44 : y2.cell? ⟨Lc, 44, none⟩ = some (.int .u32 m'.c.C.s) := X2'.cell 44
      have l44w : y2.cell? ⟨Lw, 44, none⟩ = some (.int .u32 m.c.C.s) := Xw.cell 44
      have l43 : y2.cell? ⟨Lc, 43, none⟩ = some (.int .u32 m'.c.C.p) := X2'.cell 43
      have l43w : y2.cell? ⟨Lw, 43, none⟩ = some (.int .u32 m.c.C.p) := Xw.cell 43
      have l38 : y2.cell? ⟨Lc, 38, none⟩ = some (.int .u32 m'.c.C.i) := X2'.cell 38
      have l38w : y2.cell? ⟨Lw, 38, none⟩ = some (.int .u32 m.c.C.i) := Xw.cell 38
      have l0 : y2.cell? ⟨Lc, 0, none⟩ = some (.int .u32 m'.c.pc) := X2'.cell 0
      have l0w : y2.cell? ⟨Lw, 0, none⟩ = some (.int .u32 m.c.pc) := Xw.cell 0
      have l2w : y2.cell? ⟨Lw, 2, none⟩ = some (.bool m.c.dl) := Xw.cell 2
      have l46 : y2.cell? ⟨Lc, 46, none⟩ = some (.int .u32 m'.c.C.e) := X2'.cell 46
      have l46w : y2.cell? ⟨Lw, 46, none⟩ = some (.int .u32 m.c.C.e) := Xw.cell 46
      have l40 : y2.cell? ⟨Lc, 40, none⟩ = some (.int .u32 m'.c.C.b) := X2'.cell 40
      have l40w : y2.cell? ⟨Lw, 40, none⟩ = some (.int .u32 m.c.C.b) := Xw.cell 40
      rw [u1] at l47
      rw [u2'] at l43
      rw [u3'] at l38
      have eT := fun w => neqT m.c.T w
      have eR := fun w => eqlX m.c.R w
      have sX := sizeX
      have nN : ¬ N32 = 0 := by decide
      clear X2' Xw u1 u2' u3' hsw n1 nN
      replace U := hide U.out
      rcases u4' with ⟨a1, a2, a3, a4⟩ | ⟨a1, a2, a3⟩
      · rw [a1] at l44
        rw [a4] at l3
        obtain ⟨n1, n2⟩ := yes
        have tb9 := hide O2.out.ma.tb
        have fin := hide (fun y hb => onto (onto b0.out (Nat.le_refl _) O2.out.be) (Nat.le_refl _) (y := y) hb)
        clear a1 a4 nof hUn l40 l40w l46w O2 U
        generalize Cp.mixV m.c.C.s 2 2 = S1 at *
        generalize m.c.C.s = S0 at *
        generalize m.c.C.p = P0 at *
        generalize m.c.C.i = I0' at *
        generalize m'.c.C.e = E1 at *
        generalize m'.c.pc = PC1 at *
        generalize m.c.pc = PC0 at *
        generalize m.c.dl = D0 at *
        generalize Tl.cellsT m.c.T = T0' at *
        generalize cellsX m.c.R = R0' at *
        have hE : (E1 = PC0) ∨ ((E1 == PC0) = false ∧ D0 = true ∧ E1 = (PC0 - 4) % 4294967296) := by
          by_cases h : E1 = PC0
          · exact Or.inl h
          · rcases a3 with a3 | ⟨a3, a5⟩
            · exact absurd a3 h
            · exact Or.inr ⟨by simpa using h, a3, a5⟩
        clear a3
        rcases a2 with rfl | rfl <;> rcases hE with rfl | ⟨e1, rfl, rfl⟩
        all_goals
          go_wp2_with fail
          refine (fixed13 _ tb9.out).mono ?_
          rintro e y9 ⟨rfl, b9⟩
          replace b9 := hide b9
          go_wp2
          go_ret
          exact ⟨rfl, fin.out _ b9.out⟩
      · rw [a1] at l44
        rw [a2] at l46
        rw [a3] at l40
        obtain ⟨n1, n2⟩ := nof
        have U2 : Hid (Usr m') := hide (hUn.out a1)
        clear a1 a2 a3 yes hUn l3 l3w l0 l0w l2w eR
        generalize m.c.C.s = S0 at *
        generalize m.c.C.p = P0 at *
        generalize m.c.C.i = I0' at *
        generalize m.c.C.e = E0 at *
        generalize m.c.C.b = B0' at *
        generalize Tl.cellsT m.c.T = T0' at *
        go_wp2_with fail
        exact ⟨⟨k + 1, m', by omega, by simp, O2, U2⟩, by simp [intOf]; omega⟩
    · have tw : (decide ((k : Int) < st) = true ∧ (k : Int) < st ∧ decide ((k : Int) < 200) = false ∧ ¬ (k : Int) < 200) ∨ (decide ((k : Int) < st) = false ∧ ¬ (k : Int) < st) := by
        by_cases h1 : (k : Int) < st
        · have h2 : ¬ (k : Int) < 200 := fun h => hc ⟨h1, h⟩
          exact Or.inl ⟨by simpa using h1, h1, by simpa using h2, h2⟩
        · exact Or.inr ⟨by simpa using h1, h1⟩
      clear hc
      have tb9 := hide O.out.ma.tb
      have fin := hide (fun y hb => onto (onto b0.out (Nat.le_refl _) O.out.be) (Nat.le_refl _) (y := y) hb)
      clear O U
      rcases tw with ⟨d1, d2, d3, d4⟩ | ⟨d1, d2⟩
      all_goals
        go_wp2_with fail
        refine (fixed13 _ tb9.out).mono ?_
        rintro e y9 ⟨rfl, b9⟩
        replace b9 := hide b9
        go_wp2
        go_ret
        exact ⟨rfl, fin.out _ b9.out⟩

end Go.Proofs.YthjcijlabpinkaaGreatDoor
