/- What is moved out, and in again, is what it was, wherever it comes to; no other sector, no other byte is another one. -/
import Derived.Test.YtifkldlhoaipbaaDmBackM
namespace Go.Proofs.Ytifkldlhoaipbaa
open Go.RowKit
set_option linter.unusedVariables false

theorem Jat.num {w : World} {b : Nat} {j : Jb} (h : Jat w b j) : w.cell? ⟨b, 1, none⟩ = some (.int .u32 j.d.n) := by
  rw [cell_rowAt w b 1 h.1, h.2.1]
  rfl

set_option maxRecDepth 100000 in
set_option maxHeartbeats 2000000 in
theorem back_no (w : World) (j : Jb) (hj : Wj j) (to : Int) (hno : ¬ (j.s.size = 1024 ∧ j.d.n < 16)) :
    Calls Try.prog 6 #[.agg (cellsJ j), .int .u32 to] w fun e w' => e = .returned (.bool true) ∧ Below w.heap.size w w' := by
  obtain ⟨t1, t2, t3, t4, t5, t6, t7, t8, t9⟩ := dmRules
  have J0 := Jat.new w j 38
  have B0 := grow w (.cells (cellsJ j) 38)
  obtain ⟨l0, l5, l6, l7, l8⟩ := J0.cells
  have hs := hj.s
  unfold maxLen at hs
  obtain ⟨b0, b1⟩ := hj.d.n
  go_enter Try.func6, Try.ntmps6
  go_wp2_with fail
  generalize w.alloc (.cells (cellsJ j) 38) = X at *
  refine (filled_any j.n j.c hj.c X).mono ?_
  rintro e w1 ⟨p, g, q, gb, gd, rfl, bo⟩
  replace J0 := J0.on bo.be
  have l1 := J0.num
  replace l8 := J0.cells.2.2.2.2
  have B1 := hide (B0.trans (bo.be.mono B0.size))
  clear l5 l7 l6 bo B0 J0 l0
  by_cases h1 : j.s.size = 1024
  · have e2 : decide (15 < j.d.n) = true := by simp; omega
    clear hno
    go_wp2_with fail
    refine (fixed_any _).mono ?_
    rintro e w2 ⟨rfl, b2⟩
    replace B1 := hide (onto B1.out (Nat.le_refl _) b2)
    clear b2
    go_wp2
    go_ret
    exact ⟨rfl, B1.out⟩
  · have e1 : ((j.s.size : Int) != 1024) = true := by simp; omega
    clear hno h1
    go_wp2_with fail
    refine (fixed_any _).mono ?_
    rintro e w2 ⟨rfl, b2⟩
    replace B1 := hide (onto B1.out (Nat.le_refl _) b2)
    clear b2
    go_wp2
    go_ret
    exact ⟨rfl, B1.out⟩

/-- What the law reads: the memory, the state, the job. -/
structure BackS (w : World) (p g N L : Nat) (B : Nat → Nat) (D : Nat → Bool) (t : Dm) (j : Jb) (x : World) : Prop where
  m : Mem x p g N N B D
  r : Rat x L t
  j : Jat x w.heap.size j
  be : Below w.heap.size w x
  gL : g < L
  pL : p < L
  wg : w.heap.size < g
  wL : w.heap.size < L

theorem BackS.on {w x y : World} {p g N L : Nat} {B : Nat → Nat} {D : Nat → Bool} {t : Dm} {j : Jb} (h : BackS w p g N L B D t j x) (hb : Below x.heap.size x y) : BackS w p g N L B D t j y :=
  ⟨h.m.on hb, h.r.on hb, h.j.on hb, onto h.be (Nat.le_refl _) hb, h.gL, h.pL, h.wg, h.wL⟩

theorem BackS.moved {w x y : World} {p g N L : Nat} {B B' : Nat → Nat} {D D' : Nat → Bool} {t : Dm} {j : Jb} (h : BackS w p g N L B D t j x) (hm : Mem y p g N N B' D') (hg : x.grownBy y (some g)) : BackS w p g N L B' D' t j y :=
  ⟨hm, h.r.far hg (by have := h.gL; omega), h.j.far hg (by have := h.wg; omega), grown_below h.be hg h.be.size (by have := h.wg; omega), h.gL, h.pL, h.wg, h.wL⟩

theorem BackS.set {w x : World} {p g N L : Nat} {B : Nat → Nat} {D : Nat → Bool} {t q : Dm} {j : Jb} (h : BackS w p g N L B D t j x) (k : Nat) (v : Value) (hq : (cellsD t).setIfInBounds k v = cellsD q) : BackS w p g N L B D q j (x.setCell ⟨L, k, none⟩ v) :=
  have G := grownBy_set x L k v
  ⟨h.m.far G (by have := h.pL; omega) (by have := h.gL; omega), h.r.put k v hq, h.j.far G (by have := h.wL; omega), grown_below h.be G h.be.size (by have := h.wL; omega), h.gL, h.pL, h.wg, h.wL⟩

set_option maxRecDepth 100000 in
set_option maxHeartbeats 4000000 in
theorem back_yes (w : World) (j : Jb) (hj : Wj j) (to : Int) (wt : W32 to) (hz : j.s.size = 1024) (hn : j.d.n < 16) :
    Calls Try.prog 6 #[.agg (cellsJ j), .int .u32 to] w fun e w' => e = .returned (.bool true) ∧ Below w.heap.size w w' := by
  obtain ⟨t1, t2, t3, t4, t5, t6, t7, t8, t9⟩ := dmRules
  obtain ⟨p0, p1, p2, p3, p4⟩ := dmParts
  obtain ⟨s0, s1, s2, s3, s4⟩ := dmSets
  have J0 := Jat.new w j 38
  have B0 := grow w (.cells (cellsJ j) 38)
  obtain ⟨l0, l5, l6, l7, l8⟩ := J0.cells
  obtain ⟨b0, b1⟩ := hj.d.n
  obtain ⟨num, hnum⟩ := Int.eq_ofNat_of_zero_le b0
  have hn' : num < 16 := by omega
  obtain ⟨n4, n64, hN⟩ := pagesN_is j.n
  obtain ⟨N, HN⟩ : ∃ N, pagesN j.n = N := ⟨_, rfl⟩
  rw [HN] at n4 n64 hN
  obtain ⟨k1, hk1⟩ := Int.eq_ofNat_of_zero_le (Int.emod_nonneg j.d.a (show (4 * (N : Int)) ≠ 0 by omega))
  obtain ⟨k2, hk2⟩ := Int.eq_ofNat_of_zero_le (Int.emod_nonneg to (show (4 * (N : Int)) ≠ 0 by omega))
  have m1 := Int.emod_lt_of_pos j.d.a (show 0 < (4 * (N : Int)) by omega)
  have m2 := Int.emod_lt_of_pos to (show 0 < (4 * (N : Int)) by omega)
  have q1 : k1 < 4 * N := by omega
  have q2 : k2 < 4 * N := by omega
  have r1 : j.d.a.tmod (4 * (N : Int)) = (k1 : Int) := by rw [Int.tmod_eq_emod_of_nonneg hj.d.a.1, hk1]
  have r2 : to.tmod (4 * (N : Int)) = (k2 : Int) := by rw [Int.tmod_eq_emod_of_nonneg wt.1, hk2]
  have hNz : ¬ (4 * (N : Int) = 0) := by omega
  have hNz' : (4 * (N : Int) == 0) = false := by simp; omega
  clear m1 m2
  go_enter Try.func6, Try.ntmps6
  go_wp2_with fail
  have hsz : w.heap.size < (w.alloc (.cells (cellsJ j) 38)).heap.size := J0.2.2
  generalize w.alloc (.cells (cellsJ j) 38) = X at *
  have fl := filled_any j.n j.c hj.c X
  rw [HN] at fl
  refine fl.mono ?_
  rintro e w1 ⟨p, g, q, gb, gd, rfl, bo⟩
  replace J0 := J0.on bo.be
  have l1 := J0.num
  rw [hnum] at l1
  replace l0 := J0.cells.1
  replace l6 := J0.cells.2.2.1
  replace l8 := J0.cells.2.2.2.2
  clear l5 l7 fl
  go_wp2_with fail
  obtain ⟨T, hT⟩ : ∃ T : Dm, T = ⟨(k1 : Int) * 64, (num : Int), j.d.b, j.d.y, j.d.r⟩ := ⟨_, rfl⟩
  have BS : BackS w p g N w1.heap.size (fillF j.c) (fun _ => false) T j (w1.alloc (.cells (cellsD T) 24)) :=
    ⟨bo.m.on (grow _ _), Rat.new w1 T 24, J0.on (grow _ _), onto (B0.trans (bo.be.mono B0.size)) (Nat.le_refl _) (grow _ _), bo.m.zg, bo.m.zp, by have := bo.bg; omega, J0.2.2⟩
  rw [← hT]
  have lt := bo.m.lt
  generalize w1.alloc (.cells (cellsD T) 24) = X1 at *
  generalize w1.heap.size = L at *
  generalize fillF j.c = B at *
  have wT : Wd T := by rw [hT]; exact ⟨⟨by show (0 : Int) ≤ (k1 : Int) * 64; omega, by show (k1 : Int) * 64 < 4294967296; omega⟩, ⟨by show (0 : Int) ≤ (num : Int); omega, by show (num : Int) < 4294967296; omega⟩, hj.d.b, hj.d.y⟩
  have fT : fitsB N T j.s = true := by
    unfold fitsB
    rw [hT]
    exact decide_eq_true ⟨hz, by show (num : Int) < 16; omega, by show (k1 : Int) * 64 % 64 = 0; omega, by show (k1 : Int) * 64 + 64 ≤ 256 * (N : Int); omega⟩
  have eT : moveT N T 2 j.s B = outV B (k1 * 64) num j.s := by
    unfold moveT
    rw [if_pos ⟨fT, rfl⟩, hT]
    congr 1
  have eB : moveB N T 2 j.s B = B := by unfold moveB; rw [if_neg (by omega)]
  have eD : moveD N T 2 j.s (fun _ => false) = (fun _ => false) := by unfold moveD; rw [if_neg (by omega)]
  clear J0 bo B0 hsz l0 l1 l6 l8
  replace hT := hide hT
  replace eB := hide eB
  replace eD := hide eD
  replace fT := hide fT
  replace wT := hide wT
  replace lt := hide lt
  replace hj := hide hj
  obtain ⟨W8, hW⟩ : ∃ W8, textOf (256 * N) B = W8 := ⟨_, rfl⟩
  obtain ⟨O, hO⟩ : ∃ O, outV B (k1 * 64) num j.s = O := ⟨_, rfl⟩
  have oi := out_is (B := B) (a := k1 * 64) (n := N) hz hn' (by omega)
  have sW : W8.size = 256 * N := by rw [← hW]; exact textOf_size _ _
  rw [hO, hW] at oi
  rw [hO] at eT
  replace oi := hide oi
  replace eT := hide eT
  have im := image_any BS.m
  rw [hW] at im
  refine im.mono ?_
  rintro e w2 ⟨rfl, b2⟩
  clear im
  replace hW := hide hW
  replace hO := hide hO
  replace BS := BS.on b2
  have ld := BS.r.load
  have l8 := BS.j.cells.2.2.2.2
  replace BS := hide BS
  clear b2
  go_wp2_with fail
  have mv := move_any BS.out.m T wT.out 2 j.s hj.out.s
  rw [eT.out, eB.out, eD.out] at mv
  refine mv.mono ?_
  rintro e w3 ⟨rfl, M3, g3⟩
  replace BS := BS.out.moved M3 g3
  clear M3 g3 mv ld l8
  obtain ⟨y0, y1, -, -, -⟩ := BS.r.five
  have l8 := BS.j.cells.2.2.2.2
  have z0 : T.a = (k1 : Int) * 64 := by rw [hT.out]
  have z1 : T.n = (num : Int) := by rw [hT.out]
  rw [z0] at y0
  rw [z1] at y1
  replace BS := hide BS
  clear z0 z1
  go_wp2_with fail
  obtain ⟨sO, o1, o2, o3⟩ := oi.out
  have f1 : IntKind.i64.wrap (4 * (N : Int)) = 4 * (N : Int) := by rw [IntKind.wrap_i64]; omega
  have f2 : IntKind.i64.wrap (64 * (4 * (N : Int))) = 256 * (N : Int) := by rw [IntKind.wrap_i64]; omega
  have f3 : IntKind.i64.wrap (64 * (num : Int) + 64) = 64 * (num : Int) + 64 := by rw [IntKind.wrap_i64]; omega
  have f4 : IntKind.i64.wrap ((k1 : Int) * 64 + 64) = (k1 : Int) * 64 + 64 := by rw [IntKind.wrap_i64]; omega
  have u1 : (64 * (num : Int)).toNat = 64 * num := by omega
  have u2 : (64 * (num : Int) + 64).toNat = 64 * num + 64 := by omega
  have u3 : ((k1 : Int) * 64).toNat = k1 * 64 := by omega
  have u4 : ((k1 : Int) * 64 + 64).toNat = k1 * 64 + 64 := by omega
  have v1 : (0 : Int) ≤ 64 * (num : Int) := by omega
  have v2 : 64 * (num : Int) ≤ 1024 := by omega
  have v3 : (0 : Int) ≤ 64 * (num : Int) + 64 := by omega
  have v4 : 64 * (num : Int) + 64 ≤ 1024 := by omega
  have v5 : 64 * (num : Int) ≤ 64 * (num : Int) + 64 := by omega
  have v6 : (0 : Int) ≤ (k1 : Int) * 64 := by omega
  have v7 : (k1 : Int) * 64 ≤ (k1 : Int) * 64 + 64 := by omega
  have v8 : (k1 : Int) * 64 + 64 ≤ 256 * (N : Int) := by omega
  have c1 := hide fun (x : World) (h : BackS w p g N L B (fun _ => false) T j x) => image_any h.m
  rw [hW.out] at c1
  have hS : w3.drew.cell? ⟨w.heap.size, 8, none⟩ = some (.string j.s) ∧ BackS w p g N L B (fun _ => false) T j w3.drew := ⟨l8, BS.out.on (Below.refl _ _).drew⟩
  clear y0 y1 l8 oi
  go_region_held3 (fun x => x.cell? ⟨w.heap.size, 8, none⟩ = some (.string j.s) ∧ BackS w p g N L B (fun _ => false) T j x)
    (first | exact hS | assumption)
    ((go_at_call 23; refine (c1.out _ (And.right (by assumption))).mono ?_; rintro e w4 ⟨rfl, hn⟩; have hR := And.intro (BackS.on (And.right (by assumption)) hn).j.cells.2.2.2.2 (BackS.on (And.right (by assumption)) hn); clear hn))
  replace BS := hide hR.2
  clear f1 f2 f3 f4 u1 u2 u3 u4 v1 v2 v3 v4 v5 v6 v7 hS hR c1 o1 o2 o3
  obtain ⟨y0, -, -, -, -⟩ := BS.out.r.five
  have yf := frozen_rowAt w4 L 0 BS.out.r.1
  have B2 := BS.out.set 0 (.int .u32 ((k2 : Int) * 64)) (s0 T _)
  obtain ⟨T2, hT2⟩ : ∃ T2 : Dm, T2 = { T with a := (k2 : Int) * 64 } := ⟨_, rfl⟩
  rw [← hT2] at B2
  have ld := B2.r.load
  have yc := B2.r.five.1
  have za : T2.a = (k2 : Int) * 64 := by rw [hT2]
  rw [za] at yc
  have zn : T2.n = (num : Int) := by rw [hT2]; show T.n = _; rw [hT.out]
  have wT2 : Wd T2 := by rw [hT2]; exact ⟨⟨by show (0 : Int) ≤ (k2 : Int) * 64; omega, by show (k2 : Int) * 64 < 4294967296; omega⟩, wT.out.n, wT.out.b, wT.out.y⟩
  have fT2 : fitsB N T2 O = true := by
    unfold fitsB
    rw [za, zn]
    exact decide_eq_true ⟨sO, by omega, by omega, by omega⟩
  have eT2 : moveT N T2 1 O B = O := by unfold moveT; rw [if_neg (by omega)]
  have eB2 : moveB N T2 1 O B = secB B (k2 * 64) 64 (fun j => byteAt O (64 * num + j)) := by
    unfold moveB
    rw [if_pos ⟨fT2, rfl⟩, za, zn]
    congr 1
  have ii := in_is (disk := j.s) lt.out hn' (show k1 * 64 + 64 ≤ 256 * N by omega) (show k2 * 64 + 64 ≤ 256 * N by omega)
  rw [hO.out, hW.out] at ii
  obtain ⟨W9, hW9⟩ : ∃ W9, textOf (256 * N) (secB B (k2 * 64) 64 (fun j => byteAt O (64 * num + j))) = W9 := ⟨_, rfl⟩
  rw [hW9] at ii
  have sW9 : W9.size = 256 * N := by rw [← hW9]; exact textOf_size _ _
  have mv := move_any B2.m T2 wT2 1 O (by rw [sO]; unfold maxLen; omega)
  rw [eT2, eB2] at mv
  replace mv := hide mv
  replace B2 := hide B2
  replace ii := hide ii
  clear za zn fT2 eT2 eB2 wT2
  replace hT2 := hide hT2
  go_wp2_with fail
  refine mv.out.mono ?_
  rintro e w5 ⟨rfl, M5, g5⟩
  replace B2 := hide (B2.out.moved M5 g5)
  clear M5 g5 mv ld yc y0 yf BS
  go_wp2_with fail
  have im := image_any B2.out.m
  rw [hW9] at im
  refine im.mono ?_
  rintro e w6 ⟨rfl, b6⟩
  have BE := hide (onto B2.out.be (Nat.le_refl _) b6)
  clear im b6 B2 hW9
  go_wp2_with fail
  obtain ⟨i1, i2, i3⟩ := ii.out
  have f3 : IntKind.i64.wrap ((k2 : Int) * 64 + 64) = (k2 : Int) * 64 + 64 := by rw [IntKind.wrap_i64]; omega
  have f4 : IntKind.i64.wrap ((k1 : Int) * 64 + 64) = (k1 : Int) * 64 + 64 := by rw [IntKind.wrap_i64]; omega
  have u1 : ((k2 : Int) * 64).toNat = k2 * 64 := by omega
  have u2 : ((k2 : Int) * 64 + 64).toNat = k2 * 64 + 64 := by omega
  have u3 : ((k1 : Int) * 64).toNat = k1 * 64 := by omega
  have u4 : ((k1 : Int) * 64 + 64).toNat = k1 * 64 + 64 := by omega
  have v1 : (0 : Int) ≤ (k2 : Int) * 64 := by omega
  have v2 : (k2 : Int) * 64 ≤ 256 * (N : Int) := by omega
  have v3 : (0 : Int) ≤ (k2 : Int) * 64 + 64 := by omega
  have v4 : (k2 : Int) * 64 + 64 ≤ 256 * (N : Int) := by omega
  have v5 : (k2 : Int) * 64 ≤ (k2 : Int) * 64 + 64 := by omega
  have v6 : (0 : Int) ≤ (k1 : Int) * 64 := by omega
  have v7 : (k1 : Int) * 64 ≤ (k1 : Int) * 64 + 64 := by omega
  have hS : Below w.heap.size w w6.drew := BE.out.drew
  clear ii
  go_region_held3 (fun x => Below w.heap.size w x)
    (first | exact hS | assumption)
    ((go_at_call 15; refine (fixed_any _).mono ?_; rintro e w7 ⟨rfl, hn⟩; have hR : Below w.heap.size w w7 := onto (by assumption) (Nat.le_refl _) hn; clear hn))
  go_wp2
  go_ret
  exact ⟨rfl, hR⟩

theorem back_walk (w : World) (j : Jb) (hj : Wj j) (to : Int) (wt : (Lit.int .u32 to).wf = true) :
    Calls Try.prog 6 #[.agg (cellsJ j), .int .u32 to] w fun e w' => e = .returned (.bool true) ∧ Below w.heap.size w w' := by
  by_cases h : j.s.size = 1024 ∧ j.d.n < 16
  · exact back_yes w j hj to (wf_u32 wt) h.1 h.2
  · exact back_no w j hj to h

end Go.Proofs.Ytifkldlhoaipbaa
