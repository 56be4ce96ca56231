/- Behind an instruction that raises nothing the processor stands at what was next; it is in a delay slot just behind a branch; else what is next stands four behind. -/
import Derived.Test.YthjcijlabpinkabGreatDoorPCuBegan
namespace Go.Proofs.YthjcijlabpinkabGreatDoor
open Go.RowKit
set_option linter.unusedVariables false
set_option maxRecDepth 100000
set_option linter.unusedSimpArgs false

theorem and_2 {a : Int} (ha : Cp.W32 a) : bits .and .u32 a 2 = if Cp.bit a 1 then 2 else 0 := Cp.and_bit ha 1 (by omega)

set_option maxHeartbeats 4000000 in
set_option maxRecDepth 100000 in
theorem goes_walk (w : World) (c : Cs) (sw : Value) (dev : ByteArray) (se : Value) (st : Int) (zs : List Int) (es : List Ev) (hc : Wc c) (hw : IsWords w sw zs) (hd : dev.size ≤ maxLen) (he : IsEvents w se es) (hst : (Lit.int .i64 st).wf = true) (tb : De.Tabs w) :
    Calls Tryz.prog 4 #[.agg (cellsWo c sw dev se st)] w fun e w' => e = .returned (.bool true) ∧ Below w.heap.size w w' := by
  obtain ⟨z1, z2, z3, z4, z5, z6, z7, z8, z9, z10, z11, z12, z13, z14, z15⟩ := cSizes
  obtain ⟨t1, t2, t3, t4, t5, t6, t7, t8, t9⟩ := rowRules
  obtain ⟨f1, f2, f3, f4, f5, f6, f7, f8, f9⟩ := cWhole
  obtain ⟨zw, zw0⟩ := woRules
  obtain ⟨q, f, hq, -, cs1, cs2⟩ := sets_same dev hd V0 V0_w
  have b0 := hide (grow w (.cells (cellsWo c sw dev se st) 39))
  have hw1 : IsWords (w.alloc (.cells (cellsWo c sw dev se st) 39)) sw zs := hw.on b0.out
  have cl := hide (laid_any _ c sw se dev st zs hw1 q f hq cs1 cs2)
  have cg := hide (fun x => began_any x c sw se dev st)
  have hdw := hide (zed_w hc)
  have hd0 := hide (zed_0 c)
  generalize zed c = d at *
  have X0 := hide (Box.new w (cellsWo c sw dev se st) 39)
  have tb0 := hide (tb.on b0.out)
  obtain ⟨-, -, -, g66, -, -⟩ := woParts c sw dev se st
  obtain ⟨y1, y2⟩ := woWhole c sw dev se st
  generalize cellsWo c sw dev se st = CW at *
  clear hw hw1 hd he hq cs1 cs2 tb hc
  go_enter Tryz.func4, Tryz.ntmps4
  go_wp2_with fail
  generalize w.alloc (.cells CW 39) = W0 at *
  refine cl.out.mono ?_
  rintro e w1 ⟨b, p, g, b', p', gb, gd, rfl, S⟩
  generalize fillW zs (min zs.length 512) = BB at *
  generalize markW (min zs.length 512) = DD at *
  have X1 := X0.out.on S.o1.be
  replace S := hide S
  clear cl
  obtain ⟨r1, r2, r3⟩ := X1
  go_wp2_with fail
  refine (cg.out _).mono ?_
  rintro e w2 ⟨rfl, b2⟩
  have U0 : Hid (MOwn W0 (w2.alloc (.cells (cellsC d) 31)) w2.heap.size b p g ⟨d, q, BB, DD⟩) := hide (MOwn.made S.out b2 tb0.out hdw.out hd0.out _)
  have X2 : Hid (Box W0 w.heap.size CW) := X0
  clear S b2 cg hdw hd0 r1 r2 r3 X0
  go_wp2_with fail
  generalize w2.heap.size = Lc at *
  generalize w2.alloc (.cells (cellsC d) 31) = w3 at *
  go_loopw [6] (fun i wr => ∃ (k : Nat) (m : Mc), k ≤ 100 ∧ i = .int .i64 k ∧ Hid (MOwn W0 wr Lc b p g m)) (fun i _ => 100 - (intOf i).toNat)
  case atStart => exact ⟨0, _, by omega, rfl, U0⟩
  case round =>
    clear U0
    obtain ⟨k, m, hk, rfl, O⟩ := hrel
    have l66 : wr.cell? ⟨w.heap.size, 66, none⟩ = some (.int .i64 st) := by rw [(X2.out.on O.out.be).cell]; exact g66
    by_cases hc : (k : Int) < st ∧ (k : Int) < 100
    · obtain ⟨h1, h2⟩ := hc
      have d1 : decide ((k : Int) < st) = true := by simpa using h1
      have d2 : decide ((k : Int) < 100) = true := by simpa using h2
      obtain ⟨r1, r2, r3⟩ := O.out.ma.bx
      go_wp2_with fail
      have g1 := grow wr (.cells (cellsC m.c) 31)
      have Xw := Box.new wr (cellsC m.c) 31
      have O1 := O.out.on g1
      have hne : ¬ wr.heap.size = Lc ∧ ¬ wr.heap.size = b ∧ ¬ wr.heap.size = g := by
        have := O.out.ma.bx.2.2
        have := O.out.ma.bus.lt
        have := O.out.ma.bus.m.zg
        omega
      clear r1 r2 r3 l66 O g1
      generalize wr.heap.size = Lw at *
      generalize wr.alloc (.cells (cellsC m.c) 31) = y1 at *
      have cst := hide (step_any O1.ma O1.z)
      obtain ⟨hg1, hg2⟩ := step_goes 8 m
      refine cst.out.mono ?_
      rintro e y2 ⟨rfl, M2, K2⟩
      have O2 := hide (O1.step M2 K2)
      replace Xw := Xw.kept K2 (by simp [hne])
      have X2' := M2.bx
      have n1 := and_2 M2.wc.C.s
      have n2 := and_2 O1.ma.wc.C.s
      generalize stepM 8 m = m' at *
      clear cst M2 K2 O1
      have l44 : y2.cell? ⟨Lc, 44, none⟩ = some (.int .u32 m'.c.C.s) := X2'.cell 44
      have l44w : y2.cell? ⟨Lw, 44, none⟩ = some (.int .u32 m.c.C.s) := Xw.cell 44
      have l0 : y2.cell? ⟨Lc, 0, none⟩ = some (.int .u32 m'.c.pc) := X2'.cell 0
      have l1 : y2.cell? ⟨Lc, 1, none⟩ = some (.int .u32 m'.c.nx) := X2'.cell 1
      have l2 : y2.cell? ⟨Lc, 2, none⟩ = some (.bool m'.c.dl) := X2'.cell 2
      have l1w : y2.cell? ⟨Lw, 1, none⟩ = some (.int .u32 m.c.nx) := Xw.cell 1
      have l46w : y2.cell? ⟨Lw, 46, none⟩ = some (.int .u32 m.c.C.e) := Xw.cell 46
      clear X2' Xw
      generalize m'.c.C.s = S1 at *
      generalize m.c.C.s = S0 at *
      generalize m'.c.pc = PC at *
      generalize m'.c.nx = NX at *
      generalize m'.c.dl = DL at *
      generalize m.c.nx = NW at *
      generalize m.c.C.e = EW at *
      clear n1 n2
      generalize hq1 : bits .and .u32 S1 2 = q1
      generalize hq2 : bits .and .u32 S0 2 = q2
      clear tb0
      rcases hg2 with ⟨rfl, rfl⟩ | ⟨rfl, rfl⟩
      · clear hg1
        go_wp2
        all_goals exact ⟨⟨k + 1, m', by omega, by simp, O2⟩, by simp [intOf]; omega⟩
      · rcases hg1 with rfl | rfl | rfl | rfl
        all_goals
          go_wp2
          all_goals exact ⟨⟨k + 1, m', by omega, by simp, O2⟩, by simp [intOf]; omega⟩
    · have tw : (decide ((k : Int) < st) = true ∧ (k : Int) < st ∧ decide ((k : Int) < 100) = false ∧ ¬ (k : Int) < 100) ∨ (decide ((k : Int) < st) = false ∧ ¬ (k : Int) < st) := by
        by_cases h1 : (k : Int) < st
        · have h2 : ¬ (k : Int) < 100 := fun h => hc ⟨h1, h⟩
          exact Or.inl ⟨by simpa using h1, h1, by simpa using h2, h2⟩
        · exact Or.inr ⟨by simpa using h1, h1⟩
      clear hc
      have tb9 := hide O.out.ma.tb
      have fin := hide (fun y hb => onto (onto b0.out (Nat.le_refl _) O.out.be) (Nat.le_refl _) (y := y) hb)
      clear O
      rcases tw with ⟨d1, d2, d3, d4⟩ | ⟨d1, d2⟩
      all_goals
        go_wp2_with fail
        refine (fixed13 _ tb9.out).mono ?_
        rintro e y9 ⟨rfl, b9⟩
        replace b9 := hide b9
        go_wp2
        go_ret
        exact ⟨rfl, fin.out _ b9.out⟩

end Go.Proofs.YthjcijlabpinkabGreatDoor
