/- Whatever word stands there, in whatever state: a step writes one register at most; what it writes to register 0 is lost. -/
import Derived.Test.YthjcijlabpinkabGreatDoorPCuBegan
namespace Go.Proofs.YthjcijlabpinkabGreatDoor
open Go.RowKit
set_option linter.unusedVariables false
set_option maxRecDepth 100000
set_option linter.unusedSimpArgs false

theorem zeroWo (w : World) : (zeroValue 39).run Tryz.prog w = .ok (.agg (cellsWo CZ (.slice none 0 0) ⟨#[]⟩ (.slice none 0 0) 0)) w := Tryz.zeroValue39 w

theorem store_512 (v : Dv) (B : Nat → Nat) (D : Nat → Bool) (z : Int) : stA 8 v B D 512 4 z = ⟨0, v, putB B 512 4 z.toNat, putD D 2⟩ := store_word v B D 128 z (by omega)

theorem zw1 : Cp.W32 1 := ⟨by decide, by decide⟩

def zedP (c : Cs) (s : Int) : Cs := { c with pc := 2147484160, R := putR c.R 0 0, C := { c.C with s := s } }

set_option maxHeartbeats 4000000 in
set_option maxRecDepth 100000 in
theorem zero_walk (w : World) (c : Cs) (hc : Wc c) (a : Int) (wa : (Lit.int .u32 a).wf = true) (tb : De.Tabs w) :
    Calls Tryz.prog 3 #[.agg (cellsC c), .int .u32 a] w fun e w' => e = .returned (.bool true) ∧ Below w.heap.size w w' := by
  obtain ⟨z1, z2, z3, z4, z5, z6, z7, z8, z9, z10, z11, z12, z13, z14, z15⟩ := cSizes
  obtain ⟨t1, t2, t3, t4, t5, t6, t7, t8, t9⟩ := rowRules
  obtain ⟨f1, f2, f3, f4, f5, f6, f7, f8, f9⟩ := cWhole
  obtain ⟨zw, zw0⟩ := woRules
  have ha : Cp.W32 a := wf_u32c wa
  have hw2 : 2 ≤ w.heap.size := tb.n
  obtain ⟨f, cs1, cs2⟩ := set_none
  have B0 := hide (grow w (.cells (cellsC c) 31))
  have X0 := hide (Box.new w (cellsC c) 31)
  have tb0 := hide (tb.on B0.out)
  have cl := hide (fun x => laid_any x CZ (.slice none 0 0) (.slice none 0 0) ⟨#[]⟩ 0 [] (Or.inl ⟨_, _, rfl, rfl⟩) V0 f V0_w cs1 cs2)
  have hzw := zeroWo
  generalize cellsWo CZ (.slice none 0 0) ⟨#[]⟩ (.slice none 0 0) 0 = CW at *
  clear wa tb cs1 cs2
  go_enter Tryz.func3, Tryz.ntmps3
  go_wp2_with fail
  generalize w.alloc (.cells (cellsC c) 31) = W0 at *
  refine (cl.out _).mono ?_
  rintro e w1 ⟨b, p, g, b', p', gb, gd, rfl, S⟩
  rw [show min ([] : List Int).length 512 = 0 from rfl] at S
  generalize fillW [] 0 = BB at *
  generalize markW 0 = DD at *
  have X1 := hide (X0.out.on S.o1.be)
  have hX0 : w.heap.size < W0.heap.size := X0.out.2.2
  have X0' := X0
  have cst := hide (store_is S.o1.bus 512 4 a (by decide) (by decide) ha.1 ha.2)
  rw [store_512] at cst
  replace S := hide S
  clear cl X0 hzw
  go_wp2_with fail
  refine cst.out.mono ?_
  rintro e w2 ⟨rfl, hB2, K2⟩
  have hlb := S.out.o1.zb
  have hlp := S.out.o1.zp
  have hlg := S.out.o1.zg
  have hx0 := X1.out.2.2
  have hb2 := S.out.below K2
  have tb2 := hide (tb0.out.on hb2)
  have hw0 := tb0.out.n
  have X2 := X0'.out.on hb2
  obtain ⟨s, hs⟩ : ∃ s, bits .andNot .u32 c.C.s 1 = s := ⟨_, rfl⟩
  have hsw : Cp.W32 s := by rw [← hs, Cp.not_of hc.C.s zw1]; exact Cp.mix_w zw1
  have hdw : Wc (zedP c s) := ⟨⟨by show (0 : Int) ≤ 2147484160; decide, by show (2147484160 : Int) < 4294967296; decide⟩, hc.nx, fun k => (zed_w hc).R k, hc.hi, hc.lo, ⟨hc.C.i, hc.C.l, hc.C.b, hc.C.n, hc.C.h, hc.C.p, hsw, hc.C.c, hc.C.e⟩, hc.T⟩
  have a1 : (cellsC c).setIfInBounds 3 (.int .u32 0) = cellsC (zed c) := rfl
  have a2 : (cellsC (zed c)).setIfInBounds 0 (.int .u32 2147484160) = cellsC { zed c with pc := 2147484160 } := rfl
  have a3 : (cellsC { zed c with pc := 2147484160 }).setIfInBounds 44 (.int .u32 s) = cellsC (zedP c s) := rfl
  have c3 : ∃ v, (cellsC c)[3]? = some (.int .u32 v) := ⟨_, rfl⟩
  have c0 : ∃ v, (cellsC (zed c))[0]? = some (.int .u32 v) := ⟨_, rfl⟩
  have c44 : (cellsC { zed c with pc := 2147484160 })[44]? = some (.int .u32 c.C.s) := rfl
  obtain ⟨v3, c3⟩ := c3
  obtain ⟨v0, c0⟩ := c0
  have M2 : Hid (MOwn w (w2.setRow w.heap.size (cellsC (zedP c s))) w.heap.size b p g ⟨zedP c s, V0, putB BB 512 4 a.toNat, putD DD 2⟩) := hide (by
    have hk := Kept.set (l := [w.heap.size]) w2 w.heap.size (cellsC (zedP c s)) (by simp)
    have hsz := B0.out.size
    have hwz : w.heap.size < W0.heap.size := hX0
    exact ⟨⟨X2.set _, hB2.keep hk (by simp; omega) (by simp; omega) (by simp; omega), hdw, Tabs.kept tb2.out hk (by simp; omega), by omega, by omega, by omega, by omega, by omega, by omega⟩, rfl, below_setRow (g := w.heap.size) (onto B0.out (Nat.le_refl _) hb2) (Nat.le_refl _) _, Nat.le_refl _, by omega, by omega, by omega, by omega⟩)
  generalize zedP c s = d at *
  generalize ({ zed c with pc := 2147484160 } : Cs) = d2 at *
  generalize zed c = d1 at *
  generalize putB BB 512 4 a.toNat = B2 at *
  generalize putD DD 2 = D2 at *
  obtain ⟨r1, r2, r3, r4, r5⟩ := X2.cells
  obtain ⟨q1, q2, q3, q4, q5, q6⟩ := stRules w.heap.size
  clear S hB2 K2 cst hb2 X1 tb2 tb0 hdw hsw X2
  go_wp2_with fail
  have g1 := grow (w2.setRow w.heap.size (cellsC d)) (.cells (cellsC d) 31)
  have Xw := Box.new (w2.setRow w.heap.size (cellsC d)) (cellsC d) 31
  rw [setRow_size] at Xw
  have M3 := M2.out.on g1
  have hne : ¬ w2.heap.size = w.heap.size ∧ ¬ w2.heap.size = b ∧ ¬ w2.heap.size = g := by
    have h1 := M2.out.ma.bx.2.2
    have h2 := M2.out.ma.bus.lt
    have h3 := M2.out.ma.bus.m.zg
    rw [setRow_size] at h1 h2 h3
    omega
  clear g1 M2 r1 r2 r3 r4 r5
  generalize w2.heap.size = Lw at *
  generalize (w2.setRow w.heap.size (cellsC d)).alloc (.cells (cellsC d) 31) = w3 at *
  have cst := hide (step_any M3.ma M3.z)
  obtain ⟨kk, vv, hone⟩ := step_one 8 ⟨d, V0, B2, D2⟩
  refine cst.out.mono ?_
  rintro e w4 ⟨rfl, M4, K4⟩
  have O4 := hide (M3.step M4 K4)
  replace Xw := hide (Xw.kept K4 (by simp [hne]))
  clear cst M4 K4 M3 hne
  generalize stepM 8 ⟨d, V0, B2, D2⟩ = m' at *
  have l3 : w4.cell? ⟨w.heap.size, 3, none⟩ = some (.int .u32 0) := by
    have : w4.cell? ⟨w.heap.size, 3, none⟩ = some (.int .u32 (m'.c.R 0)) := O4.out.ma.bx.cell 3
    rwa [O4.out.z] at this
  go_wp2_with fail
  go_loopw [8, 9] (fun o i wr => ∃ (k : Nat) (n : Int), 1 ≤ k ∧ k ≤ 32 ∧ i = .int .i64 k ∧ o = .int .i64 n ∧ (n = 0 ∨ n = 1 ∧ kk < k) ∧ Hid (MOwn w wr w.heap.size b p g m' ∧ Box wr Lw (cellsC d))) (fun _ i _ => 32 - (intOf i).toNat)
  case atStart => exact ⟨1, 0, by omega, by omega, rfl, rfl, Or.inl rfl, hide ⟨O4.out, Xw.out⟩⟩
  case round =>
    clear O4 Xw l3
    obtain ⟨k, n, hk1, hk, rfl, rfl, hn, hO⟩ := hrel
    by_cases hlt : k < 32
    · have d1 : decide ((k : Int) < 32) = true := by simp; omega
      have k0 : (0 : Int) ≤ (k : Int) := by omega
      have k1 : (k : Int) < 32 := by omega
      have lc : wr.cell? ⟨w.heap.size, 3 + k, none⟩ = some (.int .u32 (m'.c.R k)) := by rw [hO.out.1.ma.bx.cell]; exact get_R _ k hlt
      have lw : wr.cell? ⟨Lw, 3 + k, none⟩ = some (.int .u32 (d.R k)) := by rw [hO.out.2.cell]; exact get_R _ k hlt
      have hO' := hide (And.intro (hO.out.1.on (Below.refl _ wr).drew) hO.out.2.drew)
      by_cases he : m'.c.R k = d.R k
      · rw [he] at lc
        go_wp2_with fail
        go_region
        go_wp2
        exact ⟨⟨k + 1, n, by omega, by omega, by simp, rfl, by omega, hO'⟩, by simp [intOf]; omega⟩
      · have hkk : k = kk := by
          by_cases h : k = kk
          · exact h
          · exact absurd (by rw [hone]; exact putC_far d kk k vv h) he
        have hn0 : n = 0 := by omega
        have hf : kk < k + 1 := by omega
        clear hkk
        subst hn0
        have e1 : (m'.c.R k == d.R k) = false := by simpa using he
        have e2 : (m'.c.R k != d.R k) = true := by simpa using he
        clear hone
        go_wp2_with fail
        go_region
        go_wp2
        exact ⟨⟨k + 1, 1, by omega, by omega, by simp, rfl, by omega, hO'⟩, by simp [intOf]; omega⟩
    · have hk32 : k = 32 := by omega
      subst hk32
      have hle : decide (n ≤ 1) = true := by simp; omega
      have hle2 : n ≤ 1 := by omega
      have tb9 := hide hO.out.1.ma.tb
      have fin := hide (fun y hb => onto hO.out.1.be (Nat.le_refl _) (y := y) hb)
      clear hO hn hone hlt hk hk1
      go_wp2_with fail
      refine (fixed13 _ tb9.out).mono ?_
      rintro e y9 ⟨rfl, b9⟩
      replace b9 := hide b9
      go_wp2
      go_ret
      exact ⟨rfl, fin.out _ b9.out⟩

end Go.Proofs.YthjcijlabpinkabGreatDoor
