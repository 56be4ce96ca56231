/- Layer 13: contract of the program's do, more ops. -/
import Derived.Test.YtmegghgjllbamaaGreatDoorQCuFiv
import Derived.Test.YtmegghgjllbamaaGreatDoorQCuFou
import Derived.Test.YtmegghgjllbamaaGreatDoorQCuManA
import Derived.ScopeJumps
import Derived.Deep.CutRange
namespace Go.Proofs.YtmegghgjllbamaaGreatDoor
open Go.RowKit
set_option linter.unusedVariables false
set_option maxRecDepth 100000
set_option linter.unusedSimpArgs false

set_option maxHeartbeats 1500000 in
set_option maxRecDepth 100000 in
theorem do_C {w : World} {cb bb p g n cp : Nat} {m : Mc} (h : Mach w cb bb p g n cp m) (o : Int) (s t d a : Nat) (i e : Int) (hs : s < 32) (ht : t < 32) (hd : d < 32) (ha : a < 32) (ho : o = 12 ∨ o = 13 ∨ o = 14 ∨ o = 15) :
    Calls Tryz.prog 27 #[.pointer (some ⟨cb, 0, none⟩), .pointer (some ⟨bb, 0, none⟩), .agg #[.int .i64 o, .int .i64 (s : Int), .int .i64 (t : Int), .int .i64 (d : Int), .int .i64 (a : Int), .int .i64 i]] w fun r w' =>
      r = .returned (.tuple #[.agg (cellsF (doM n m ⟨o, s, t, d, a, i, e⟩).f), .bool (doM n m ⟨o, s, t, d, a, i, e⟩).k]) ∧ Mach w' cb bb p g n cp (doM n m ⟨o, s, t, d, a, i, e⟩).m ∧ Kept [cb, bb, g] w w' := by
  obtain ⟨zf1, zf2, zf3, zf4, zf5, zf6, zf7, zf8, zf9, zf10⟩ := ftRules
  obtain ⟨zs1, zs2⟩ := ftMore
  obtain ⟨p0, p1, p2, p3, p4, p5, p6, p7, p8, p9⟩ := cParts
  have gA := grow w (.cells #[.int .i64 o, .int .i64 (s : Int), .int .i64 (t : Int), .int .i64 (d : Int), .int .i64 (a : Int), .int .i64 i] 73)
  have gB := grow (w.alloc (.cells #[.int .i64 o, .int .i64 (s : Int), .int .i64 (t : Int), .int .i64 (d : Int), .int .i64 (a : Int), .int .i64 i] 73)) (.cells (cellsF F0) 75)
  have M0 := hide ((h.on gA).on gB)
  have L0 := hide ((Box.new w #[.int .i64 o, .int .i64 (s : Int), .int .i64 (t : Int), .int .i64 (d : Int), .int .i64 (a : Int), .int .i64 i] 73).on gB)
  have R0 := hide (Box.new (w.alloc (.cells #[.int .i64 o, .int .i64 (s : Int), .int .i64 (t : Int), .int .i64 (d : Int), .int .i64 (a : Int), .int .i64 i] 73)) (cellsF F0) 75)
  have K0 := hide (Kept.of (l := [cb, bb, g]) (onto gA (Nat.le_refl _) gB))
  rw [show (w.alloc (.cells #[.int .i64 o, .int .i64 (s : Int), .int .i64 (t : Int), .int .i64 (d : Int), .int .i64 (a : Int), .int .i64 i] 73)).heap.size = w.heap.size + 1 by simp] at R0
  have hbb : bb < w.heap.size := h.bus.lt
  have hgg : g < w.heap.size := h.bus.m.zg
  have hcc : cb < w.heap.size := h.bx.2.2
  have hpp : p < w.heap.size := h.bus.m.zp
  have h2 : 2 ≤ w.heap.size := h.tb.n
  have si0 : (0 : Int) ≤ (s : Int) := by omega
  have si : (s : Int) < 32 := by omega
  have ti0 : (0 : Int) ≤ (t : Int) := by omega
  have ti : (t : Int) < 32 := by omega
  obtain ⟨r1, r2, r3, r4, r5⟩ := h.bx.cells
  clear gA gB h
  rcases ho with rfl | rfl | rfl | rfl
  · have hV : doM n m ⟨12, s, t, d, a, i, e⟩ = nop { m with c := mhV m.c ⟨12, s, t, d, a, i, e⟩ } := rfl
    rw [hV]
    clear hV
    have cc := hide fun x (hx : Box x cb (cellsC m.c)) => moveHalf_any hx 12 s t d a i e hs ht hd (by omega)
    have hW := hide (mhV_w M0.out.wc ⟨12, s, t, d, a, i, e⟩)
    generalize mhV m.c ⟨12, s, t, d, a, i, e⟩ = C at *
    go_enter Tryz.func27, Tryz.ntmps27
    go_wp2_with fail
    go_region
    replace M0 := hide M0.out.drew
    replace L0 := hide L0.out.drew
    replace R0 := hide R0.out.drew
    replace K0 := hide K0.out.drew
    obtain ⟨l1, l2, l3, l4, l5⟩ := L0.out.cells
    go_wp2_with fail
    refine (cc.out _ M0.out.bx).mono ?_
    rintro r x2 ⟨rfl, B2, K2⟩
    have M4 := hide (M0.out.state B2 K2 hW.out)
    have K4 := hide (K0.out.trans (K2.mono (by simp)))
    have R4 := hide (R0.out.kept K2 (by simp; omega))
    clear l1 l2 l3 l4 l5 r1 r2 r3 r4 r5 B2 K2
    have hst := fun f => (R4.out.last0 f).1
    have hld := hide fun f => (R4.out.last0 f).2
    go_wp2
    exact bodyPost_ret (v := .tuple #[.agg (cellsF F0), .bool true]) (by simp [results, Tryz.results27, go_sem, zf1, zf5, hld.out]) rfl ⟨rfl, M4.out.far (w.heap.size + 1) _ (by omega) (by omega) (by omega) (by omega) (by omega), K4.out.late (w.heap.size + 1) _ (by omega)⟩
  · have hV : doM n m ⟨13, s, t, d, a, i, e⟩ = nop { m with c := mhV m.c ⟨13, s, t, d, a, i, e⟩ } := rfl
    rw [hV]
    clear hV
    have cc := hide fun x (hx : Box x cb (cellsC m.c)) => moveHalf_any hx 13 s t d a i e hs ht hd (by omega)
    have hW := hide (mhV_w M0.out.wc ⟨13, s, t, d, a, i, e⟩)
    generalize mhV m.c ⟨13, s, t, d, a, i, e⟩ = C at *
    go_enter Tryz.func27, Tryz.ntmps27
    go_wp2_with fail
    go_region
    replace M0 := hide M0.out.drew
    replace L0 := hide L0.out.drew
    replace R0 := hide R0.out.drew
    replace K0 := hide K0.out.drew
    obtain ⟨l1, l2, l3, l4, l5⟩ := L0.out.cells
    go_wp2_with fail
    refine (cc.out _ M0.out.bx).mono ?_
    rintro r x2 ⟨rfl, B2, K2⟩
    have M4 := hide (M0.out.state B2 K2 hW.out)
    have K4 := hide (K0.out.trans (K2.mono (by simp)))
    have R4 := hide (R0.out.kept K2 (by simp; omega))
    clear l1 l2 l3 l4 l5 r1 r2 r3 r4 r5 B2 K2
    have hst := fun f => (R4.out.last0 f).1
    have hld := hide fun f => (R4.out.last0 f).2
    go_wp2
    exact bodyPost_ret (v := .tuple #[.agg (cellsF F0), .bool true]) (by simp [results, Tryz.results27, go_sem, zf1, zf5, hld.out]) rfl ⟨rfl, M4.out.far (w.heap.size + 1) _ (by omega) (by omega) (by omega) (by omega) (by omega), K4.out.late (w.heap.size + 1) _ (by omega)⟩
  · have hV : doM n m ⟨14, s, t, d, a, i, e⟩ = nop { m with c := mhV m.c ⟨14, s, t, d, a, i, e⟩ } := rfl
    rw [hV]
    clear hV
    have cc := hide fun x (hx : Box x cb (cellsC m.c)) => moveHalf_any hx 14 s t d a i e hs ht hd (by omega)
    have hW := hide (mhV_w M0.out.wc ⟨14, s, t, d, a, i, e⟩)
    generalize mhV m.c ⟨14, s, t, d, a, i, e⟩ = C at *
    go_enter Tryz.func27, Tryz.ntmps27
    go_wp2_with fail
    go_region
    replace M0 := hide M0.out.drew
    replace L0 := hide L0.out.drew
    replace R0 := hide R0.out.drew
    replace K0 := hide K0.out.drew
    obtain ⟨l1, l2, l3, l4, l5⟩ := L0.out.cells
    go_wp2_with fail
    refine (cc.out _ M0.out.bx).mono ?_
    rintro r x2 ⟨rfl, B2, K2⟩
    have M4 := hide (M0.out.state B2 K2 hW.out)
    have K4 := hide (K0.out.trans (K2.mono (by simp)))
    have R4 := hide (R0.out.kept K2 (by simp; omega))
    clear l1 l2 l3 l4 l5 r1 r2 r3 r4 r5 B2 K2
    have hst := fun f => (R4.out.last0 f).1
    have hld := hide fun f => (R4.out.last0 f).2
    go_wp2
    exact bodyPost_ret (v := .tuple #[.agg (cellsF F0), .bool true]) (by simp [results, Tryz.results27, go_sem, zf1, zf5, hld.out]) rfl ⟨rfl, M4.out.far (w.heap.size + 1) _ (by omega) (by omega) (by omega) (by omega) (by omega), K4.out.late (w.heap.size + 1) _ (by omega)⟩
  · have hV : doM n m ⟨15, s, t, d, a, i, e⟩ = nop { m with c := mhV m.c ⟨15, s, t, d, a, i, e⟩ } := rfl
    rw [hV]
    clear hV
    have cc := hide fun x (hx : Box x cb (cellsC m.c)) => moveHalf_any hx 15 s t d a i e hs ht hd (by omega)
    have hW := hide (mhV_w M0.out.wc ⟨15, s, t, d, a, i, e⟩)
    generalize mhV m.c ⟨15, s, t, d, a, i, e⟩ = C at *
    go_enter Tryz.func27, Tryz.ntmps27
    go_wp2_with fail
    go_region
    replace M0 := hide M0.out.drew
    replace L0 := hide L0.out.drew
    replace R0 := hide R0.out.drew
    replace K0 := hide K0.out.drew
    obtain ⟨l1, l2, l3, l4, l5⟩ := L0.out.cells
    go_wp2_with fail
    refine (cc.out _ M0.out.bx).mono ?_
    rintro r x2 ⟨rfl, B2, K2⟩
    have M4 := hide (M0.out.state B2 K2 hW.out)
    have K4 := hide (K0.out.trans (K2.mono (by simp)))
    have R4 := hide (R0.out.kept K2 (by simp; omega))
    clear l1 l2 l3 l4 l5 r1 r2 r3 r4 r5 B2 K2
    have hst := fun f => (R4.out.last0 f).1
    have hld := hide fun f => (R4.out.last0 f).2
    go_wp2
    exact bodyPost_ret (v := .tuple #[.agg (cellsF F0), .bool true]) (by simp [results, Tryz.results27, go_sem, zf1, zf5, hld.out]) rfl ⟨rfl, M4.out.far (w.heap.size + 1) _ (by omega) (by omega) (by omega) (by omega) (by omega), K4.out.late (w.heap.size + 1) _ (by omega)⟩

set_option maxHeartbeats 1500000 in
set_option maxRecDepth 100000 in
theorem do_D {w : World} {cb bb p g n cp : Nat} {m : Mc} (h : Mach w cb bb p g n cp m) (o : Int) (s t d a : Nat) (i e : Int) (hs : s < 32) (ht : t < 32) (hd : d < 32) (ha : a < 32) (ho : o = 16 ∨ o = 17 ∨ o = 18 ∨ o = 19) :
    Calls Tryz.prog 27 #[.pointer (some ⟨cb, 0, none⟩), .pointer (some ⟨bb, 0, none⟩), .agg #[.int .i64 o, .int .i64 (s : Int), .int .i64 (t : Int), .int .i64 (d : Int), .int .i64 (a : Int), .int .i64 i]] w fun r w' =>
      r = .returned (.tuple #[.agg (cellsF (doM n m ⟨o, s, t, d, a, i, e⟩).f), .bool (doM n m ⟨o, s, t, d, a, i, e⟩).k]) ∧ Mach w' cb bb p g n cp (doM n m ⟨o, s, t, d, a, i, e⟩).m ∧ Kept [cb, bb, g] w w' := by
  obtain ⟨zf1, zf2, zf3, zf4, zf5, zf6, zf7, zf8, zf9, zf10⟩ := ftRules
  obtain ⟨zs1, zs2⟩ := ftMore
  obtain ⟨p0, p1, p2, p3, p4, p5, p6, p7, p8, p9⟩ := cParts
  have gA := grow w (.cells #[.int .i64 o, .int .i64 (s : Int), .int .i64 (t : Int), .int .i64 (d : Int), .int .i64 (a : Int), .int .i64 i] 73)
  have gB := grow (w.alloc (.cells #[.int .i64 o, .int .i64 (s : Int), .int .i64 (t : Int), .int .i64 (d : Int), .int .i64 (a : Int), .int .i64 i] 73)) (.cells (cellsF F0) 75)
  have M0 := hide ((h.on gA).on gB)
  have L0 := hide ((Box.new w #[.int .i64 o, .int .i64 (s : Int), .int .i64 (t : Int), .int .i64 (d : Int), .int .i64 (a : Int), .int .i64 i] 73).on gB)
  have R0 := hide (Box.new (w.alloc (.cells #[.int .i64 o, .int .i64 (s : Int), .int .i64 (t : Int), .int .i64 (d : Int), .int .i64 (a : Int), .int .i64 i] 73)) (cellsF F0) 75)
  have K0 := hide (Kept.of (l := [cb, bb, g]) (onto gA (Nat.le_refl _) gB))
  rw [show (w.alloc (.cells #[.int .i64 o, .int .i64 (s : Int), .int .i64 (t : Int), .int .i64 (d : Int), .int .i64 (a : Int), .int .i64 i] 73)).heap.size = w.heap.size + 1 by simp] at R0
  have hbb : bb < w.heap.size := h.bus.lt
  have hgg : g < w.heap.size := h.bus.m.zg
  have hcc : cb < w.heap.size := h.bx.2.2
  have hpp : p < w.heap.size := h.bus.m.zp
  have h2 : 2 ≤ w.heap.size := h.tb.n
  have si0 : (0 : Int) ≤ (s : Int) := by omega
  have si : (s : Int) < 32 := by omega
  have ti0 : (0 : Int) ≤ (t : Int) := by omega
  have ti : (t : Int) < 32 := by omega
  obtain ⟨r1, r2, r3, r4, r5⟩ := h.bx.cells
  clear gA gB h
  rcases ho with rfl | rfl | rfl | rfl
  · have hV : doM n m ⟨16, s, t, d, a, i, e⟩ = nop { m with c := halfV m.c 16 (m.c.R s) (m.c.R t) } := rfl
    rw [hV]
    clear hV
    have cc := hide fun x (hx : Box x cb (cellsC m.c)) => makeHalves_any hx 16 (m.c.R s) (m.c.R t) (M0.out.wc.R s) (M0.out.wc.R t) (by omega)
    have hW := hide (halfV_w M0.out.wc 16 (m.c.R s) (m.c.R t))
    generalize halfV m.c 16 (m.c.R s) (m.c.R t) = C at *
    go_enter Tryz.func27, Tryz.ntmps27
    go_wp2_with fail
    go_region
    replace M0 := hide M0.out.drew
    replace L0 := hide L0.out.drew
    replace R0 := hide R0.out.drew
    replace K0 := hide K0.out.drew
    obtain ⟨l1, l2, l3, l4, l5⟩ := L0.out.cells
    go_wp2_with fail
    refine (cc.out _ M0.out.bx).mono ?_
    rintro r x2 ⟨rfl, B2, K2⟩
    have M4 := hide (M0.out.state B2 K2 hW.out)
    have K4 := hide (K0.out.trans (K2.mono (by simp)))
    have R4 := hide (R0.out.kept K2 (by simp; omega))
    clear l1 l2 l3 l4 l5 r1 r2 r3 r4 r5 B2 K2
    have hst := fun f => (R4.out.last0 f).1
    have hld := hide fun f => (R4.out.last0 f).2
    go_wp2
    exact bodyPost_ret (v := .tuple #[.agg (cellsF F0), .bool true]) (by simp [results, Tryz.results27, go_sem, zf1, zf5, hld.out]) rfl ⟨rfl, M4.out.far (w.heap.size + 1) _ (by omega) (by omega) (by omega) (by omega) (by omega), K4.out.late (w.heap.size + 1) _ (by omega)⟩
  · have hV : doM n m ⟨17, s, t, d, a, i, e⟩ = nop { m with c := halfV m.c 17 (m.c.R s) (m.c.R t) } := rfl
    rw [hV]
    clear hV
    have cc := hide fun x (hx : Box x cb (cellsC m.c)) => makeHalves_any hx 17 (m.c.R s) (m.c.R t) (M0.out.wc.R s) (M0.out.wc.R t) (by omega)
    have hW := hide (halfV_w M0.out.wc 17 (m.c.R s) (m.c.R t))
    generalize halfV m.c 17 (m.c.R s) (m.c.R t) = C at *
    go_enter Tryz.func27, Tryz.ntmps27
    go_wp2_with fail
    go_region
    replace M0 := hide M0.out.drew
    replace L0 := hide L0.out.drew
    replace R0 := hide R0.out.drew
    replace K0 := hide K0.out.drew
    obtain ⟨l1, l2, l3, l4, l5⟩ := L0.out.cells
    go_wp2_with fail
    refine (cc.out _ M0.out.bx).mono ?_
    rintro r x2 ⟨rfl, B2, K2⟩
    have M4 := hide (M0.out.state B2 K2 hW.out)
    have K4 := hide (K0.out.trans (K2.mono (by simp)))
    have R4 := hide (R0.out.kept K2 (by simp; omega))
    clear l1 l2 l3 l4 l5 r1 r2 r3 r4 r5 B2 K2
    have hst := fun f => (R4.out.last0 f).1
    have hld := hide fun f => (R4.out.last0 f).2
    go_wp2
    exact bodyPost_ret (v := .tuple #[.agg (cellsF F0), .bool true]) (by simp [results, Tryz.results27, go_sem, zf1, zf5, hld.out]) rfl ⟨rfl, M4.out.far (w.heap.size + 1) _ (by omega) (by omega) (by omega) (by omega) (by omega), K4.out.late (w.heap.size + 1) _ (by omega)⟩
  · have hV : doM n m ⟨18, s, t, d, a, i, e⟩ = nop { m with c := halfV m.c 18 (m.c.R s) (m.c.R t) } := rfl
    rw [hV]
    clear hV
    have cc := hide fun x (hx : Box x cb (cellsC m.c)) => makeHalves_any hx 18 (m.c.R s) (m.c.R t) (M0.out.wc.R s) (M0.out.wc.R t) (by omega)
    have hW := hide (halfV_w M0.out.wc 18 (m.c.R s) (m.c.R t))
    generalize halfV m.c 18 (m.c.R s) (m.c.R t) = C at *
    go_enter Tryz.func27, Tryz.ntmps27
    go_wp2_with fail
    go_region
    replace M0 := hide M0.out.drew
    replace L0 := hide L0.out.drew
    replace R0 := hide R0.out.drew
    replace K0 := hide K0.out.drew
    obtain ⟨l1, l2, l3, l4, l5⟩ := L0.out.cells
    go_wp2_with fail
    refine (cc.out _ M0.out.bx).mono ?_
    rintro r x2 ⟨rfl, B2, K2⟩
    have M4 := hide (M0.out.state B2 K2 hW.out)
    have K4 := hide (K0.out.trans (K2.mono (by simp)))
    have R4 := hide (R0.out.kept K2 (by simp; omega))
    clear l1 l2 l3 l4 l5 r1 r2 r3 r4 r5 B2 K2
    have hst := fun f => (R4.out.last0 f).1
    have hld := hide fun f => (R4.out.last0 f).2
    go_wp2
    exact bodyPost_ret (v := .tuple #[.agg (cellsF F0), .bool true]) (by simp [results, Tryz.results27, go_sem, zf1, zf5, hld.out]) rfl ⟨rfl, M4.out.far (w.heap.size + 1) _ (by omega) (by omega) (by omega) (by omega) (by omega), K4.out.late (w.heap.size + 1) _ (by omega)⟩
  · have hV : doM n m ⟨19, s, t, d, a, i, e⟩ = nop { m with c := halfV m.c 19 (m.c.R s) (m.c.R t) } := rfl
    rw [hV]
    clear hV
    have cc := hide fun x (hx : Box x cb (cellsC m.c)) => makeHalves_any hx 19 (m.c.R s) (m.c.R t) (M0.out.wc.R s) (M0.out.wc.R t) (by omega)
    have hW := hide (halfV_w M0.out.wc 19 (m.c.R s) (m.c.R t))
    generalize halfV m.c 19 (m.c.R s) (m.c.R t) = C at *
    go_enter Tryz.func27, Tryz.ntmps27
    go_wp2_with fail
    go_region
    replace M0 := hide M0.out.drew
    replace L0 := hide L0.out.drew
    replace R0 := hide R0.out.drew
    replace K0 := hide K0.out.drew
    obtain ⟨l1, l2, l3, l4, l5⟩ := L0.out.cells
    go_wp2_with fail
    refine (cc.out _ M0.out.bx).mono ?_
    rintro r x2 ⟨rfl, B2, K2⟩
    have M4 := hide (M0.out.state B2 K2 hW.out)
    have K4 := hide (K0.out.trans (K2.mono (by simp)))
    have R4 := hide (R0.out.kept K2 (by simp; omega))
    clear l1 l2 l3 l4 l5 r1 r2 r3 r4 r5 B2 K2
    have hst := fun f => (R4.out.last0 f).1
    have hld := hide fun f => (R4.out.last0 f).2
    go_wp2
    exact bodyPost_ret (v := .tuple #[.agg (cellsF F0), .bool true]) (by simp [results, Tryz.results27, go_sem, zf1, zf5, hld.out]) rfl ⟨rfl, M4.out.far (w.heap.size + 1) _ (by omega) (by omega) (by omega) (by omega) (by omega), K4.out.late (w.heap.size + 1) _ (by omega)⟩

set_option maxHeartbeats 1500000 in
set_option maxRecDepth 100000 in
theorem do_E {w : World} {cb bb p g n cp : Nat} {m : Mc} (h : Mach w cb bb p g n cp m) (o : Int) (s t d a : Nat) (i e : Int) (hs : s < 32) (ht : t < 32) (hd : d < 32) (ha : a < 32) (ho : o = 53 ∨ o = 54 ∨ o = 55 ∨ o = 56 ∨ o = 57 ∨ o = 58) :
    Calls Tryz.prog 27 #[.pointer (some ⟨cb, 0, none⟩), .pointer (some ⟨bb, 0, none⟩), .agg #[.int .i64 o, .int .i64 (s : Int), .int .i64 (t : Int), .int .i64 (d : Int), .int .i64 (a : Int), .int .i64 i]] w fun r w' =>
      r = .returned (.tuple #[.agg (cellsF (doM n m ⟨o, s, t, d, a, i, e⟩).f), .bool (doM n m ⟨o, s, t, d, a, i, e⟩).k]) ∧ Mach w' cb bb p g n cp (doM n m ⟨o, s, t, d, a, i, e⟩).m ∧ Kept [cb, bb, g] w w' := by
  obtain ⟨zf1, zf2, zf3, zf4, zf5, zf6, zf7, zf8, zf9, zf10⟩ := ftRules
  obtain ⟨zs1, zs2⟩ := ftMore
  obtain ⟨p0, p1, p2, p3, p4, p5, p6, p7, p8, p9⟩ := cParts
  have gA := grow w (.cells #[.int .i64 o, .int .i64 (s : Int), .int .i64 (t : Int), .int .i64 (d : Int), .int .i64 (a : Int), .int .i64 i] 73)
  have gB := grow (w.alloc (.cells #[.int .i64 o, .int .i64 (s : Int), .int .i64 (t : Int), .int .i64 (d : Int), .int .i64 (a : Int), .int .i64 i] 73)) (.cells (cellsF F0) 75)
  have M0 := hide ((h.on gA).on gB)
  have L0 := hide ((Box.new w #[.int .i64 o, .int .i64 (s : Int), .int .i64 (t : Int), .int .i64 (d : Int), .int .i64 (a : Int), .int .i64 i] 73).on gB)
  have R0 := hide (Box.new (w.alloc (.cells #[.int .i64 o, .int .i64 (s : Int), .int .i64 (t : Int), .int .i64 (d : Int), .int .i64 (a : Int), .int .i64 i] 73)) (cellsF F0) 75)
  have K0 := hide (Kept.of (l := [cb, bb, g]) (onto gA (Nat.le_refl _) gB))
  rw [show (w.alloc (.cells #[.int .i64 o, .int .i64 (s : Int), .int .i64 (t : Int), .int .i64 (d : Int), .int .i64 (a : Int), .int .i64 i] 73)).heap.size = w.heap.size + 1 by simp] at R0
  have hbb : bb < w.heap.size := h.bus.lt
  have hgg : g < w.heap.size := h.bus.m.zg
  have hcc : cb < w.heap.size := h.bx.2.2
  have hpp : p < w.heap.size := h.bus.m.zp
  have h2 : 2 ≤ w.heap.size := h.tb.n
  have si0 : (0 : Int) ≤ (s : Int) := by omega
  have si : (s : Int) < 32 := by omega
  have ti0 : (0 : Int) ≤ (t : Int) := by omega
  have ti : (t : Int) < 32 := by omega
  obtain ⟨r1, r2, r3, r4, r5⟩ := h.bx.cells
  clear gA gB h
  rcases ho with rfl | rfl | rfl | rfl | rfl | rfl
  · have hV : doM n m ⟨53, s, t, d, a, i, e⟩ = nop { m with c := mgV m.c ⟨53, s, t, d, a, i, e⟩ } := rfl
    rw [hV]
    clear hV
    have cc := hide fun x (hx : Box x cb (cellsC m.c)) => manage_any hx M0.out.wc 53 s t d a i e hs ht hd (by omega)
    have hW := hide (mgV_w M0.out.wc ⟨53, s, t, d, a, i, e⟩)
    generalize mgV m.c ⟨53, s, t, d, a, i, e⟩ = C at *
    go_enter Tryz.func27, Tryz.ntmps27
    go_wp2_with fail
    go_region
    replace M0 := hide M0.out.drew
    replace L0 := hide L0.out.drew
    replace R0 := hide R0.out.drew
    replace K0 := hide K0.out.drew
    obtain ⟨l1, l2, l3, l4, l5⟩ := L0.out.cells
    go_wp2_with fail
    refine (cc.out _ M0.out.bx).mono ?_
    rintro r x2 ⟨rfl, B2, K2⟩
    have M4 := hide (M0.out.state B2 K2 hW.out)
    have K4 := hide (K0.out.trans (K2.mono (by simp)))
    have R4 := hide (R0.out.kept K2 (by simp; omega))
    clear l1 l2 l3 l4 l5 r1 r2 r3 r4 r5 B2 K2
    have hst := fun f => (R4.out.last0 f).1
    have hld := hide fun f => (R4.out.last0 f).2
    go_wp2
    exact bodyPost_ret (v := .tuple #[.agg (cellsF F0), .bool true]) (by simp [results, Tryz.results27, go_sem, zf1, zf5, hld.out]) rfl ⟨rfl, M4.out.far (w.heap.size + 1) _ (by omega) (by omega) (by omega) (by omega) (by omega), K4.out.late (w.heap.size + 1) _ (by omega)⟩
  · have hV : doM n m ⟨54, s, t, d, a, i, e⟩ = nop { m with c := mgV m.c ⟨54, s, t, d, a, i, e⟩ } := rfl
    rw [hV]
    clear hV
    have cc := hide fun x (hx : Box x cb (cellsC m.c)) => manage_any hx M0.out.wc 54 s t d a i e hs ht hd (by omega)
    have hW := hide (mgV_w M0.out.wc ⟨54, s, t, d, a, i, e⟩)
    generalize mgV m.c ⟨54, s, t, d, a, i, e⟩ = C at *
    go_enter Tryz.func27, Tryz.ntmps27
    go_wp2_with fail
    go_region
    replace M0 := hide M0.out.drew
    replace L0 := hide L0.out.drew
    replace R0 := hide R0.out.drew
    replace K0 := hide K0.out.drew
    obtain ⟨l1, l2, l3, l4, l5⟩ := L0.out.cells
    go_wp2_with fail
    refine (cc.out _ M0.out.bx).mono ?_
    rintro r x2 ⟨rfl, B2, K2⟩
    have M4 := hide (M0.out.state B2 K2 hW.out)
    have K4 := hide (K0.out.trans (K2.mono (by simp)))
    have R4 := hide (R0.out.kept K2 (by simp; omega))
    clear l1 l2 l3 l4 l5 r1 r2 r3 r4 r5 B2 K2
    have hst := fun f => (R4.out.last0 f).1
    have hld := hide fun f => (R4.out.last0 f).2
    go_wp2
    exact bodyPost_ret (v := .tuple #[.agg (cellsF F0), .bool true]) (by simp [results, Tryz.results27, go_sem, zf1, zf5, hld.out]) rfl ⟨rfl, M4.out.far (w.heap.size + 1) _ (by omega) (by omega) (by omega) (by omega) (by omega), K4.out.late (w.heap.size + 1) _ (by omega)⟩
  · have hV : doM n m ⟨55, s, t, d, a, i, e⟩ = nop { m with c := mgV m.c ⟨55, s, t, d, a, i, e⟩ } := rfl
    rw [hV]
    clear hV
    have cc := hide fun x (hx : Box x cb (cellsC m.c)) => manage_any hx M0.out.wc 55 s t d a i e hs ht hd (by omega)
    have hW := hide (mgV_w M0.out.wc ⟨55, s, t, d, a, i, e⟩)
    generalize mgV m.c ⟨55, s, t, d, a, i, e⟩ = C at *
    go_enter Tryz.func27, Tryz.ntmps27
    go_wp2_with fail
    go_region
    replace M0 := hide M0.out.drew
    replace L0 := hide L0.out.drew
    replace R0 := hide R0.out.drew
    replace K0 := hide K0.out.drew
    obtain ⟨l1, l2, l3, l4, l5⟩ := L0.out.cells
    go_wp2_with fail
    refine (cc.out _ M0.out.bx).mono ?_
    rintro r x2 ⟨rfl, B2, K2⟩
    have M4 := hide (M0.out.state B2 K2 hW.out)
    have K4 := hide (K0.out.trans (K2.mono (by simp)))
    have R4 := hide (R0.out.kept K2 (by simp; omega))
    clear l1 l2 l3 l4 l5 r1 r2 r3 r4 r5 B2 K2
    have hst := fun f => (R4.out.last0 f).1
    have hld := hide fun f => (R4.out.last0 f).2
    go_wp2
    exact bodyPost_ret (v := .tuple #[.agg (cellsF F0), .bool true]) (by simp [results, Tryz.results27, go_sem, zf1, zf5, hld.out]) rfl ⟨rfl, M4.out.far (w.heap.size + 1) _ (by omega) (by omega) (by omega) (by omega) (by omega), K4.out.late (w.heap.size + 1) _ (by omega)⟩
  · have hV : doM n m ⟨56, s, t, d, a, i, e⟩ = nop { m with c := mgV m.c ⟨56, s, t, d, a, i, e⟩ } := rfl
    rw [hV]
    clear hV
    have cc := hide fun x (hx : Box x cb (cellsC m.c)) => manage_any hx M0.out.wc 56 s t d a i e hs ht hd (by omega)
    have hW := hide (mgV_w M0.out.wc ⟨56, s, t, d, a, i, e⟩)
    generalize mgV m.c ⟨56, s, t, d, a, i, e⟩ = C at *
    go_enter Tryz.func27, Tryz.ntmps27
    go_wp2_with fail
    go_region
    replace M0 := hide M0.out.drew
    replace L0 := hide L0.out.drew
    replace R0 := hide R0.out.drew
    replace K0 := hide K0.out.drew
    obtain ⟨l1, l2, l3, l4, l5⟩ := L0.out.cells
    go_wp2_with fail
    refine (cc.out _ M0.out.bx).mono ?_
    rintro r x2 ⟨rfl, B2, K2⟩
    have M4 := hide (M0.out.state B2 K2 hW.out)
    have K4 := hide (K0.out.trans (K2.mono (by simp)))
    have R4 := hide (R0.out.kept K2 (by simp; omega))
    clear l1 l2 l3 l4 l5 r1 r2 r3 r4 r5 B2 K2
    have hst := fun f => (R4.out.last0 f).1
    have hld := hide fun f => (R4.out.last0 f).2
    go_wp2
    exact bodyPost_ret (v := .tuple #[.agg (cellsF F0), .bool true]) (by simp [results, Tryz.results27, go_sem, zf1, zf5, hld.out]) rfl ⟨rfl, M4.out.far (w.heap.size + 1) _ (by omega) (by omega) (by omega) (by omega) (by omega), K4.out.late (w.heap.size + 1) _ (by omega)⟩
  · have hV : doM n m ⟨57, s, t, d, a, i, e⟩ = nop { m with c := mgV m.c ⟨57, s, t, d, a, i, e⟩ } := rfl
    rw [hV]
    clear hV
    have cc := hide fun x (hx : Box x cb (cellsC m.c)) => manage_any hx M0.out.wc 57 s t d a i e hs ht hd (by omega)
    have hW := hide (mgV_w M0.out.wc ⟨57, s, t, d, a, i, e⟩)
    generalize mgV m.c ⟨57, s, t, d, a, i, e⟩ = C at *
    go_enter Tryz.func27, Tryz.ntmps27
    go_wp2_with fail
    go_region
    replace M0 := hide M0.out.drew
    replace L0 := hide L0.out.drew
    replace R0 := hide R0.out.drew
    replace K0 := hide K0.out.drew
    obtain ⟨l1, l2, l3, l4, l5⟩ := L0.out.cells
    go_wp2_with fail
    refine (cc.out _ M0.out.bx).mono ?_
    rintro r x2 ⟨rfl, B2, K2⟩
    have M4 := hide (M0.out.state B2 K2 hW.out)
    have K4 := hide (K0.out.trans (K2.mono (by simp)))
    have R4 := hide (R0.out.kept K2 (by simp; omega))
    clear l1 l2 l3 l4 l5 r1 r2 r3 r4 r5 B2 K2
    have hst := fun f => (R4.out.last0 f).1
    have hld := hide fun f => (R4.out.last0 f).2
    go_wp2
    exact bodyPost_ret (v := .tuple #[.agg (cellsF F0), .bool true]) (by simp [results, Tryz.results27, go_sem, zf1, zf5, hld.out]) rfl ⟨rfl, M4.out.far (w.heap.size + 1) _ (by omega) (by omega) (by omega) (by omega) (by omega), K4.out.late (w.heap.size + 1) _ (by omega)⟩
  · have hV : doM n m ⟨58, s, t, d, a, i, e⟩ = nop { m with c := mgV m.c ⟨58, s, t, d, a, i, e⟩ } := rfl
    rw [hV]
    clear hV
    have cc := hide fun x (hx : Box x cb (cellsC m.c)) => manage_any hx M0.out.wc 58 s t d a i e hs ht hd (by omega)
    have hW := hide (mgV_w M0.out.wc ⟨58, s, t, d, a, i, e⟩)
    generalize mgV m.c ⟨58, s, t, d, a, i, e⟩ = C at *
    go_enter Tryz.func27, Tryz.ntmps27
    go_wp2_with fail
    go_region
    replace M0 := hide M0.out.drew
    replace L0 := hide L0.out.drew
    replace R0 := hide R0.out.drew
    replace K0 := hide K0.out.drew
    obtain ⟨l1, l2, l3, l4, l5⟩ := L0.out.cells
    go_wp2_with fail
    refine (cc.out _ M0.out.bx).mono ?_
    rintro r x2 ⟨rfl, B2, K2⟩
    have M4 := hide (M0.out.state B2 K2 hW.out)
    have K4 := hide (K0.out.trans (K2.mono (by simp)))
    have R4 := hide (R0.out.kept K2 (by simp; omega))
    clear l1 l2 l3 l4 l5 r1 r2 r3 r4 r5 B2 K2
    have hst := fun f => (R4.out.last0 f).1
    have hld := hide fun f => (R4.out.last0 f).2
    go_wp2
    exact bodyPost_ret (v := .tuple #[.agg (cellsF F0), .bool true]) (by simp [results, Tryz.results27, go_sem, zf1, zf5, hld.out]) rfl ⟨rfl, M4.out.far (w.heap.size + 1) _ (by omega) (by omega) (by omega) (by omega) (by omega), K4.out.late (w.heap.size + 1) _ (by omega)⟩

end Go.Proofs.YtmegghgjllbamaaGreatDoor

/- Layer 13: contract of the program's do, more ops. -/
namespace Go.Proofs.YtmegghgjllbamaaGreatDoor
open Go.RowKit
set_option linter.unusedVariables false
set_option maxRecDepth 100000
set_option linter.unusedSimpArgs false

set_option maxHeartbeats 1500000 in
set_option maxRecDepth 100000 in
theorem do_F {w : World} {cb bb p g n cp : Nat} {m : Mc} (h : Mach w cb bb p g n cp m) (o : Int) (s t d a : Nat) (i e : Int) (hs : s < 32) (ht : t < 32) (hd : d < 32) (ha : a < 32) (ho : o = 59 ∨ o = 60 ∨ o = 61 ∨ o = 62 ∨ o = 63 ∨ o = 67) :
    Calls Tryz.prog 27 #[.pointer (some ⟨cb, 0, none⟩), .pointer (some ⟨bb, 0, none⟩), .agg #[.int .i64 o, .int .i64 (s : Int), .int .i64 (t : Int), .int .i64 (d : Int), .int .i64 (a : Int), .int .i64 i]] w fun r w' =>
      r = .returned (.tuple #[.agg (cellsF (doM n m ⟨o, s, t, d, a, i, e⟩).f), .bool (doM n m ⟨o, s, t, d, a, i, e⟩).k]) ∧ Mach w' cb bb p g n cp (doM n m ⟨o, s, t, d, a, i, e⟩).m ∧ Kept [cb, bb, g] w w' := by
  obtain ⟨zf1, zf2, zf3, zf4, zf5, zf6, zf7, zf8, zf9, zf10⟩ := ftRules
  obtain ⟨zs1, zs2⟩ := ftMore
  obtain ⟨p0, p1, p2, p3, p4, p5, p6, p7, p8, p9⟩ := cParts
  have gA := grow w (.cells #[.int .i64 o, .int .i64 (s : Int), .int .i64 (t : Int), .int .i64 (d : Int), .int .i64 (a : Int), .int .i64 i] 73)
  have gB := grow (w.alloc (.cells #[.int .i64 o, .int .i64 (s : Int), .int .i64 (t : Int), .int .i64 (d : Int), .int .i64 (a : Int), .int .i64 i] 73)) (.cells (cellsF F0) 75)
  have M0 := hide ((h.on gA).on gB)
  have L0 := hide ((Box.new w #[.int .i64 o, .int .i64 (s : Int), .int .i64 (t : Int), .int .i64 (d : Int), .int .i64 (a : Int), .int .i64 i] 73).on gB)
  have R0 := hide (Box.new (w.alloc (.cells #[.int .i64 o, .int .i64 (s : Int), .int .i64 (t : Int), .int .i64 (d : Int), .int .i64 (a : Int), .int .i64 i] 73)) (cellsF F0) 75)
  have K0 := hide (Kept.of (l := [cb, bb, g]) (onto gA (Nat.le_refl _) gB))
  rw [show (w.alloc (.cells #[.int .i64 o, .int .i64 (s : Int), .int .i64 (t : Int), .int .i64 (d : Int), .int .i64 (a : Int), .int .i64 i] 73)).heap.size = w.heap.size + 1 by simp] at R0
  have hbb : bb < w.heap.size := h.bus.lt
  have hgg : g < w.heap.size := h.bus.m.zg
  have hcc : cb < w.heap.size := h.bx.2.2
  have hpp : p < w.heap.size := h.bus.m.zp
  have h2 : 2 ≤ w.heap.size := h.tb.n
  have si0 : (0 : Int) ≤ (s : Int) := by omega
  have si : (s : Int) < 32 := by omega
  have ti0 : (0 : Int) ≤ (t : Int) := by omega
  have ti : (t : Int) < 32 := by omega
  obtain ⟨r1, r2, r3, r4, r5⟩ := h.bx.cells
  clear gA gB h
  rcases ho with rfl | rfl | rfl | rfl | rfl | rfl
  · have hV : doM n m ⟨59, s, t, d, a, i, e⟩ = loadM n m ⟨59, s, t, d, a, i, e⟩ := rfl
    rw [hV]
    clear hV
    have cc := hide fun x (hx : Mach x cb bb p g n cp m) => loadC_any hx 59 s t d a i e hs ht (by omega)
    generalize loadM n m ⟨59, s, t, d, a, i, e⟩ = O at *
    go_enter Tryz.func27, Tryz.ntmps27
    go_wp2_with fail
    go_region
    replace M0 := hide M0.out.drew
    replace L0 := hide L0.out.drew
    replace R0 := hide R0.out.drew
    replace K0 := hide K0.out.drew
    obtain ⟨l1, l2, l3, l4, l5⟩ := L0.out.cells
    go_wp2_with fail
    refine (cc.out _ M0.out).mono ?_
    rintro r x2 ⟨rfl, B2, K2⟩
    have M4 := hide B2
    have K4 := hide (K0.out.trans K2)
    have R4 := hide (R0.out.kept K2 (by simp; omega))
    clear l1 l2 l3 l4 l5 r1 r2 r3 r4 r5 B2 K2
    have hst := fun f => (R4.out.last0 f).1
    have hld := hide fun f => (R4.out.last0 f).2
    go_wp2
    exact bodyPost_ret (v := .tuple #[.agg (cellsF O.f), .bool O.k]) (by simp [results, Tryz.results27, go_sem, zf1, zf5, hld.out]) rfl ⟨rfl, M4.out.far (w.heap.size + 1) _ (by omega) (by omega) (by omega) (by omega) (by omega), K4.out.late (w.heap.size + 1) _ (by omega)⟩
  · have hV : doM n m ⟨60, s, t, d, a, i, e⟩ = loadM n m ⟨60, s, t, d, a, i, e⟩ := rfl
    rw [hV]
    clear hV
    have cc := hide fun x (hx : Mach x cb bb p g n cp m) => loadC_any hx 60 s t d a i e hs ht (by omega)
    generalize loadM n m ⟨60, s, t, d, a, i, e⟩ = O at *
    go_enter Tryz.func27, Tryz.ntmps27
    go_wp2_with fail
    go_region
    replace M0 := hide M0.out.drew
    replace L0 := hide L0.out.drew
    replace R0 := hide R0.out.drew
    replace K0 := hide K0.out.drew
    obtain ⟨l1, l2, l3, l4, l5⟩ := L0.out.cells
    go_wp2_with fail
    refine (cc.out _ M0.out).mono ?_
    rintro r x2 ⟨rfl, B2, K2⟩
    have M4 := hide B2
    have K4 := hide (K0.out.trans K2)
    have R4 := hide (R0.out.kept K2 (by simp; omega))
    clear l1 l2 l3 l4 l5 r1 r2 r3 r4 r5 B2 K2
    have hst := fun f => (R4.out.last0 f).1
    have hld := hide fun f => (R4.out.last0 f).2
    go_wp2
    exact bodyPost_ret (v := .tuple #[.agg (cellsF O.f), .bool O.k]) (by simp [results, Tryz.results27, go_sem, zf1, zf5, hld.out]) rfl ⟨rfl, M4.out.far (w.heap.size + 1) _ (by omega) (by omega) (by omega) (by omega) (by omega), K4.out.late (w.heap.size + 1) _ (by omega)⟩
  · have hV : doM n m ⟨61, s, t, d, a, i, e⟩ = loadM n m ⟨61, s, t, d, a, i, e⟩ := rfl
    rw [hV]
    clear hV
    have cc := hide fun x (hx : Mach x cb bb p g n cp m) => loadC_any hx 61 s t d a i e hs ht (by omega)
    generalize loadM n m ⟨61, s, t, d, a, i, e⟩ = O at *
    go_enter Tryz.func27, Tryz.ntmps27
    go_wp2_with fail
    go_region
    replace M0 := hide M0.out.drew
    replace L0 := hide L0.out.drew
    replace R0 := hide R0.out.drew
    replace K0 := hide K0.out.drew
    obtain ⟨l1, l2, l3, l4, l5⟩ := L0.out.cells
    go_wp2_with fail
    refine (cc.out _ M0.out).mono ?_
    rintro r x2 ⟨rfl, B2, K2⟩
    have M4 := hide B2
    have K4 := hide (K0.out.trans K2)
    have R4 := hide (R0.out.kept K2 (by simp; omega))
    clear l1 l2 l3 l4 l5 r1 r2 r3 r4 r5 B2 K2
    have hst := fun f => (R4.out.last0 f).1
    have hld := hide fun f => (R4.out.last0 f).2
    go_wp2
    exact bodyPost_ret (v := .tuple #[.agg (cellsF O.f), .bool O.k]) (by simp [results, Tryz.results27, go_sem, zf1, zf5, hld.out]) rfl ⟨rfl, M4.out.far (w.heap.size + 1) _ (by omega) (by omega) (by omega) (by omega) (by omega), K4.out.late (w.heap.size + 1) _ (by omega)⟩
  · have hV : doM n m ⟨62, s, t, d, a, i, e⟩ = loadM n m ⟨62, s, t, d, a, i, e⟩ := rfl
    rw [hV]
    clear hV
    have cc := hide fun x (hx : Mach x cb bb p g n cp m) => loadC_any hx 62 s t d a i e hs ht (by omega)
    generalize loadM n m ⟨62, s, t, d, a, i, e⟩ = O at *
    go_enter Tryz.func27, Tryz.ntmps27
    go_wp2_with fail
    go_region
    replace M0 := hide M0.out.drew
    replace L0 := hide L0.out.drew
    replace R0 := hide R0.out.drew
    replace K0 := hide K0.out.drew
    obtain ⟨l1, l2, l3, l4, l5⟩ := L0.out.cells
    go_wp2_with fail
    refine (cc.out _ M0.out).mono ?_
    rintro r x2 ⟨rfl, B2, K2⟩
    have M4 := hide B2
    have K4 := hide (K0.out.trans K2)
    have R4 := hide (R0.out.kept K2 (by simp; omega))
    clear l1 l2 l3 l4 l5 r1 r2 r3 r4 r5 B2 K2
    have hst := fun f => (R4.out.last0 f).1
    have hld := hide fun f => (R4.out.last0 f).2
    go_wp2
    exact bodyPost_ret (v := .tuple #[.agg (cellsF O.f), .bool O.k]) (by simp [results, Tryz.results27, go_sem, zf1, zf5, hld.out]) rfl ⟨rfl, M4.out.far (w.heap.size + 1) _ (by omega) (by omega) (by omega) (by omega) (by omega), K4.out.late (w.heap.size + 1) _ (by omega)⟩
  · have hV : doM n m ⟨63, s, t, d, a, i, e⟩ = loadM n m ⟨63, s, t, d, a, i, e⟩ := rfl
    rw [hV]
    clear hV
    have cc := hide fun x (hx : Mach x cb bb p g n cp m) => loadC_any hx 63 s t d a i e hs ht (by omega)
    generalize loadM n m ⟨63, s, t, d, a, i, e⟩ = O at *
    go_enter Tryz.func27, Tryz.ntmps27
    go_wp2_with fail
    go_region
    replace M0 := hide M0.out.drew
    replace L0 := hide L0.out.drew
    replace R0 := hide R0.out.drew
    replace K0 := hide K0.out.drew
    obtain ⟨l1, l2, l3, l4, l5⟩ := L0.out.cells
    go_wp2_with fail
    refine (cc.out _ M0.out).mono ?_
    rintro r x2 ⟨rfl, B2, K2⟩
    have M4 := hide B2
    have K4 := hide (K0.out.trans K2)
    have R4 := hide (R0.out.kept K2 (by simp; omega))
    clear l1 l2 l3 l4 l5 r1 r2 r3 r4 r5 B2 K2
    have hst := fun f => (R4.out.last0 f).1
    have hld := hide fun f => (R4.out.last0 f).2
    go_wp2
    exact bodyPost_ret (v := .tuple #[.agg (cellsF O.f), .bool O.k]) (by simp [results, Tryz.results27, go_sem, zf1, zf5, hld.out]) rfl ⟨rfl, M4.out.far (w.heap.size + 1) _ (by omega) (by omega) (by omega) (by omega) (by omega), K4.out.late (w.heap.size + 1) _ (by omega)⟩
  · have hV : doM n m ⟨67, s, t, d, a, i, e⟩ = loadM n m ⟨67, s, t, d, a, i, e⟩ := rfl
    rw [hV]
    clear hV
    have cc := hide fun x (hx : Mach x cb bb p g n cp m) => loadC_any hx 67 s t d a i e hs ht (by omega)
    generalize loadM n m ⟨67, s, t, d, a, i, e⟩ = O at *
    go_enter Tryz.func27, Tryz.ntmps27
    go_wp2_with fail
    go_region
    replace M0 := hide M0.out.drew
    replace L0 := hide L0.out.drew
    replace R0 := hide R0.out.drew
    replace K0 := hide K0.out.drew
    obtain ⟨l1, l2, l3, l4, l5⟩ := L0.out.cells
    go_wp2_with fail
    refine (cc.out _ M0.out).mono ?_
    rintro r x2 ⟨rfl, B2, K2⟩
    have M4 := hide B2
    have K4 := hide (K0.out.trans K2)
    have R4 := hide (R0.out.kept K2 (by simp; omega))
    clear l1 l2 l3 l4 l5 r1 r2 r3 r4 r5 B2 K2
    have hst := fun f => (R4.out.last0 f).1
    have hld := hide fun f => (R4.out.last0 f).2
    go_wp2
    exact bodyPost_ret (v := .tuple #[.agg (cellsF O.f), .bool O.k]) (by simp [results, Tryz.results27, go_sem, zf1, zf5, hld.out]) rfl ⟨rfl, M4.out.far (w.heap.size + 1) _ (by omega) (by omega) (by omega) (by omega) (by omega), K4.out.late (w.heap.size + 1) _ (by omega)⟩

set_option maxHeartbeats 1500000 in
set_option maxRecDepth 100000 in
theorem do_G {w : World} {cb bb p g n cp : Nat} {m : Mc} (h : Mach w cb bb p g n cp m) (o : Int) (s t d a : Nat) (i e : Int) (hs : s < 32) (ht : t < 32) (hd : d < 32) (ha : a < 32) (ho : o = 64 ∨ o = 65 ∨ o = 66 ∨ o = 68) :
    Calls Tryz.prog 27 #[.pointer (some ⟨cb, 0, none⟩), .pointer (some ⟨bb, 0, none⟩), .agg #[.int .i64 o, .int .i64 (s : Int), .int .i64 (t : Int), .int .i64 (d : Int), .int .i64 (a : Int), .int .i64 i]] w fun r w' =>
      r = .returned (.tuple #[.agg (cellsF (doM n m ⟨o, s, t, d, a, i, e⟩).f), .bool (doM n m ⟨o, s, t, d, a, i, e⟩).k]) ∧ Mach w' cb bb p g n cp (doM n m ⟨o, s, t, d, a, i, e⟩).m ∧ Kept [cb, bb, g] w w' := by
  obtain ⟨zf1, zf2, zf3, zf4, zf5, zf6, zf7, zf8, zf9, zf10⟩ := ftRules
  obtain ⟨zs1, zs2⟩ := ftMore
  obtain ⟨p0, p1, p2, p3, p4, p5, p6, p7, p8, p9⟩ := cParts
  have gA := grow w (.cells #[.int .i64 o, .int .i64 (s : Int), .int .i64 (t : Int), .int .i64 (d : Int), .int .i64 (a : Int), .int .i64 i] 73)
  have gB := grow (w.alloc (.cells #[.int .i64 o, .int .i64 (s : Int), .int .i64 (t : Int), .int .i64 (d : Int), .int .i64 (a : Int), .int .i64 i] 73)) (.cells (cellsF F0) 75)
  have M0 := hide ((h.on gA).on gB)
  have L0 := hide ((Box.new w #[.int .i64 o, .int .i64 (s : Int), .int .i64 (t : Int), .int .i64 (d : Int), .int .i64 (a : Int), .int .i64 i] 73).on gB)
  have R0 := hide (Box.new (w.alloc (.cells #[.int .i64 o, .int .i64 (s : Int), .int .i64 (t : Int), .int .i64 (d : Int), .int .i64 (a : Int), .int .i64 i] 73)) (cellsF F0) 75)
  have K0 := hide (Kept.of (l := [cb, bb, g]) (onto gA (Nat.le_refl _) gB))
  rw [show (w.alloc (.cells #[.int .i64 o, .int .i64 (s : Int), .int .i64 (t : Int), .int .i64 (d : Int), .int .i64 (a : Int), .int .i64 i] 73)).heap.size = w.heap.size + 1 by simp] at R0
  have hbb : bb < w.heap.size := h.bus.lt
  have hgg : g < w.heap.size := h.bus.m.zg
  have hcc : cb < w.heap.size := h.bx.2.2
  have hpp : p < w.heap.size := h.bus.m.zp
  have h2 : 2 ≤ w.heap.size := h.tb.n
  have si0 : (0 : Int) ≤ (s : Int) := by omega
  have si : (s : Int) < 32 := by omega
  have ti0 : (0 : Int) ≤ (t : Int) := by omega
  have ti : (t : Int) < 32 := by omega
  obtain ⟨r1, r2, r3, r4, r5⟩ := h.bx.cells
  clear gA gB h
  rcases ho with rfl | rfl | rfl | rfl
  · have hV : doM n m ⟨64, s, t, d, a, i, e⟩ = storeM n m ⟨64, s, t, d, a, i, e⟩ := rfl
    rw [hV]
    clear hV
    have cc := hide fun x (hx : Mach x cb bb p g n cp m) => storeC_any hx 64 s t d a i e hs ht (by omega)
    generalize storeM n m ⟨64, s, t, d, a, i, e⟩ = O at *
    go_enter Tryz.func27, Tryz.ntmps27
    go_wp2_with fail
    go_region
    replace M0 := hide M0.out.drew
    replace L0 := hide L0.out.drew
    replace R0 := hide R0.out.drew
    replace K0 := hide K0.out.drew
    obtain ⟨l1, l2, l3, l4, l5⟩ := L0.out.cells
    go_wp2_with fail
    refine (cc.out _ M0.out).mono ?_
    rintro r x2 ⟨rfl, B2, K2⟩
    have M4 := hide B2
    have K4 := hide (K0.out.trans K2)
    have R4 := hide (R0.out.kept K2 (by simp; omega))
    clear l1 l2 l3 l4 l5 r1 r2 r3 r4 r5 B2 K2
    have hst := fun f => (R4.out.last0 f).1
    have hld := hide fun f => (R4.out.last0 f).2
    go_wp2
    exact bodyPost_ret (v := .tuple #[.agg (cellsF O.f), .bool O.k]) (by simp [results, Tryz.results27, go_sem, zf1, zf5, hld.out]) rfl ⟨rfl, M4.out.far (w.heap.size + 1) _ (by omega) (by omega) (by omega) (by omega) (by omega), K4.out.late (w.heap.size + 1) _ (by omega)⟩
  · have hV : doM n m ⟨65, s, t, d, a, i, e⟩ = storeM n m ⟨65, s, t, d, a, i, e⟩ := rfl
    rw [hV]
    clear hV
    have cc := hide fun x (hx : Mach x cb bb p g n cp m) => storeC_any hx 65 s t d a i e hs ht (by omega)
    generalize storeM n m ⟨65, s, t, d, a, i, e⟩ = O at *
    go_enter Tryz.func27, Tryz.ntmps27
    go_wp2_with fail
    go_region
    replace M0 := hide M0.out.drew
    replace L0 := hide L0.out.drew
    replace R0 := hide R0.out.drew
    replace K0 := hide K0.out.drew
    obtain ⟨l1, l2, l3, l4, l5⟩ := L0.out.cells
    go_wp2_with fail
    refine (cc.out _ M0.out).mono ?_
    rintro r x2 ⟨rfl, B2, K2⟩
    have M4 := hide B2
    have K4 := hide (K0.out.trans K2)
    have R4 := hide (R0.out.kept K2 (by simp; omega))
    clear l1 l2 l3 l4 l5 r1 r2 r3 r4 r5 B2 K2
    have hst := fun f => (R4.out.last0 f).1
    have hld := hide fun f => (R4.out.last0 f).2
    go_wp2
    exact bodyPost_ret (v := .tuple #[.agg (cellsF O.f), .bool O.k]) (by simp [results, Tryz.results27, go_sem, zf1, zf5, hld.out]) rfl ⟨rfl, M4.out.far (w.heap.size + 1) _ (by omega) (by omega) (by omega) (by omega) (by omega), K4.out.late (w.heap.size + 1) _ (by omega)⟩
  · have hV : doM n m ⟨66, s, t, d, a, i, e⟩ = storeM n m ⟨66, s, t, d, a, i, e⟩ := rfl
    rw [hV]
    clear hV
    have cc := hide fun x (hx : Mach x cb bb p g n cp m) => storeC_any hx 66 s t d a i e hs ht (by omega)
    generalize storeM n m ⟨66, s, t, d, a, i, e⟩ = O at *
    go_enter Tryz.func27, Tryz.ntmps27
    go_wp2_with fail
    go_region
    replace M0 := hide M0.out.drew
    replace L0 := hide L0.out.drew
    replace R0 := hide R0.out.drew
    replace K0 := hide K0.out.drew
    obtain ⟨l1, l2, l3, l4, l5⟩ := L0.out.cells
    go_wp2_with fail
    refine (cc.out _ M0.out).mono ?_
    rintro r x2 ⟨rfl, B2, K2⟩
    have M4 := hide B2
    have K4 := hide (K0.out.trans K2)
    have R4 := hide (R0.out.kept K2 (by simp; omega))
    clear l1 l2 l3 l4 l5 r1 r2 r3 r4 r5 B2 K2
    have hst := fun f => (R4.out.last0 f).1
    have hld := hide fun f => (R4.out.last0 f).2
    go_wp2
    exact bodyPost_ret (v := .tuple #[.agg (cellsF O.f), .bool O.k]) (by simp [results, Tryz.results27, go_sem, zf1, zf5, hld.out]) rfl ⟨rfl, M4.out.far (w.heap.size + 1) _ (by omega) (by omega) (by omega) (by omega) (by omega), K4.out.late (w.heap.size + 1) _ (by omega)⟩
  · have hV : doM n m ⟨68, s, t, d, a, i, e⟩ = storeM n m ⟨68, s, t, d, a, i, e⟩ := rfl
    rw [hV]
    clear hV
    have cc := hide fun x (hx : Mach x cb bb p g n cp m) => storeC_any hx 68 s t d a i e hs ht (by omega)
    generalize storeM n m ⟨68, s, t, d, a, i, e⟩ = O at *
    go_enter Tryz.func27, Tryz.ntmps27
    go_wp2_with fail
    go_region
    replace M0 := hide M0.out.drew
    replace L0 := hide L0.out.drew
    replace R0 := hide R0.out.drew
    replace K0 := hide K0.out.drew
    obtain ⟨l1, l2, l3, l4, l5⟩ := L0.out.cells
    go_wp2_with fail
    refine (cc.out _ M0.out).mono ?_
    rintro r x2 ⟨rfl, B2, K2⟩
    have M4 := hide B2
    have K4 := hide (K0.out.trans K2)
    have R4 := hide (R0.out.kept K2 (by simp; omega))
    clear l1 l2 l3 l4 l5 r1 r2 r3 r4 r5 B2 K2
    have hst := fun f => (R4.out.last0 f).1
    have hld := hide fun f => (R4.out.last0 f).2
    go_wp2
    exact bodyPost_ret (v := .tuple #[.agg (cellsF O.f), .bool O.k]) (by simp [results, Tryz.results27, go_sem, zf1, zf5, hld.out]) rfl ⟨rfl, M4.out.far (w.heap.size + 1) _ (by omega) (by omega) (by omega) (by omega) (by omega), K4.out.late (w.heap.size + 1) _ (by omega)⟩

end Go.Proofs.YtmegghgjllbamaaGreatDoor

/- Layer 13: contract of the program's do, of what makes one number of two. -/
namespace Go.Proofs.YtmegghgjllbamaaGreatDoor
open Go.RowKit
set_option linter.unusedVariables false
set_option maxRecDepth 100000
set_option linter.unusedSimpArgs false

theorem alu_not {o : Int} (h : isAlu o) : (o == 10) = false ∧ (o == 11) = false ∧ (o == 30) = false ∧ (o == 31) = false ∧ (o == 8) = false ∧ (o == 9) = false ∧ (o == 12) = false ∧ (o == 13) = false ∧ (o == 14) = false ∧ (o == 15) = false ∧ (o == 16) = false ∧ (o == 17) = false ∧ (o == 18) = false ∧ (o == 19) = false ∧ (o == 53) = false ∧ (o == 54) = false ∧ (o == 55) = false ∧ (o == 56) = false ∧ (o == 57) = false ∧ (o == 58) = false ∧ (o == 59) = false ∧ (o == 60) = false ∧ (o == 61) = false ∧ (o == 62) = false ∧ (o == 63) = false ∧ (o == 67) = false ∧ (o == 64) = false ∧ (o == 65) = false ∧ (o == 66) = false ∧ (o == 68) = false := by
  unfold isAlu at h
  rcases h with rfl | rfl | rfl | rfl | rfl | rfl | rfl | rfl | rfl | rfl | rfl | rfl | rfl | rfl | rfl | rfl | rfl | rfl | rfl | rfl | rfl | rfl | rfl | rfl | rfl | rfl | rfl
  all_goals decide

theorem alu_is {o : Int} (h : isAlu o) (n : Nat) (m : Mc) (s t d a i e : Int) : doM n m ⟨o, s, t, d, a, i, e⟩ = aluM m ⟨o, s, t, d, a, i, e⟩ := by
  unfold isAlu at h
  rcases h with rfl | rfl | rfl | rfl | rfl | rfl | rfl | rfl | rfl | rfl | rfl | rfl | rfl | rfl | rfl | rfl | rfl | rfl | rfl | rfl | rfl | rfl | rfl | rfl | rfl | rfl | rfl
  all_goals rfl

theorem opD_lt (o : Int) (s t d a : Nat) (i e : Int) (ht : t < 32) (hd : d < 32) : opD ⟨o, s, t, d, a, i, e⟩ < 32 := by
  unfold opD
  split
  · simpa using ht
  · simpa using hd

theorem opY_w {c : Cs} (h : Wc c) (o : Int) (s t d a : Nat) (i e : Int) (ha : a < 32) : Cp.W32 (opY c ⟨o, s, t, d, a, i, e⟩) := by
  unfold opY
  repeat' split
  · exact ⟨by simp, by dsimp only; omega⟩
  · exact h.R _
  · exact mod_w _
  · exact h.R _

set_option maxHeartbeats 1500000 in
set_option maxRecDepth 100000 in
theorem do_H {w : World} {cb bb p g n cp : Nat} {m : Mc} (h : Mach w cb bb p g n cp m) (o : Int) (s t d a : Nat) (i e : Int) (hs : s < 32) (ht : t < 32) (hd : d < 32) (ha : a < 32) (ho : isAlu o) :
    Calls Tryz.prog 27 #[.pointer (some ⟨cb, 0, none⟩), .pointer (some ⟨bb, 0, none⟩), .agg #[.int .i64 o, .int .i64 (s : Int), .int .i64 (t : Int), .int .i64 (d : Int), .int .i64 (a : Int), .int .i64 i]] w fun r w' =>
      r = .returned (.tuple #[.agg (cellsF (doM n m ⟨o, s, t, d, a, i, e⟩).f), .bool (doM n m ⟨o, s, t, d, a, i, e⟩).k]) ∧ Mach w' cb bb p g n cp (doM n m ⟨o, s, t, d, a, i, e⟩).m ∧ Kept [cb, bb, g] w w' := by
  obtain ⟨zf1, zf2, zf3, zf4, zf5, zf6, zf7, zf8, zf9, zf10⟩ := ftRules
  obtain ⟨zs1, zs2⟩ := ftMore
  obtain ⟨p0, p1, p2, p3, p4, p5, p6, p7, p8, p9⟩ := cParts
  have gA := grow w (.cells #[.int .i64 o, .int .i64 (s : Int), .int .i64 (t : Int), .int .i64 (d : Int), .int .i64 (a : Int), .int .i64 i] 73)
  have gB := grow (w.alloc (.cells #[.int .i64 o, .int .i64 (s : Int), .int .i64 (t : Int), .int .i64 (d : Int), .int .i64 (a : Int), .int .i64 i] 73)) (.cells (cellsF F0) 75)
  have M0 := hide ((h.on gA).on gB)
  have L0 := hide ((Box.new w #[.int .i64 o, .int .i64 (s : Int), .int .i64 (t : Int), .int .i64 (d : Int), .int .i64 (a : Int), .int .i64 i] 73).on gB)
  have R0 := hide (Box.new (w.alloc (.cells #[.int .i64 o, .int .i64 (s : Int), .int .i64 (t : Int), .int .i64 (d : Int), .int .i64 (a : Int), .int .i64 i] 73)) (cellsF F0) 75)
  have K0 := hide (Kept.of (l := [cb, bb, g]) (onto gA (Nat.le_refl _) gB))
  rw [show (w.alloc (.cells #[.int .i64 o, .int .i64 (s : Int), .int .i64 (t : Int), .int .i64 (d : Int), .int .i64 (a : Int), .int .i64 i] 73)).heap.size = w.heap.size + 1 by simp] at R0
  have hbb : bb < w.heap.size := h.bus.lt
  have hgg : g < w.heap.size := h.bus.m.zg
  have hcc : cb < w.heap.size := h.bx.2.2
  have hpp : p < w.heap.size := h.bus.m.zp
  have h2 : 2 ≤ w.heap.size := h.tb.n
  have si0 : (0 : Int) ≤ (s : Int) := by omega
  have si : (s : Int) < 32 := by omega
  have ti0 : (0 : Int) ≤ (t : Int) := by omega
  have ti : (t : Int) < 32 := by omega
  obtain ⟨r1, r2, r3, r4, r5⟩ := h.bx.cells
  clear gA gB h
  obtain ⟨q10, q11, q30, q31, q8, q9, q12, q13, q14, q15, q16, q17, q18, q19, q53, q54, q55, q56, q57, q58, q59, q60, q61, q62, q63, q67, q64, q65, q66, q68⟩ := alu_not ho
  rw [alu_is ho]
  have hY := hide (opY_w M0.out.wc o s t d a i e ha)
  have hX := hide (opX_w M0.out.wc ⟨o, s, t, d, a, i, e⟩)
  have cc := hide fun x (hx : Box x cb (cellsC m.c)) (tx : De.Tabs x) F C (hO : ((aluV o (opX m.c ⟨o, s, t, d, a, i, e⟩) (opY m.c ⟨o, s, t, d, a, i, e⟩)).2 = true ∧ F = ftC 12 ∧ C = m.c) ∨ ((aluV o (opX m.c ⟨o, s, t, d, a, i, e⟩) (opY m.c ⟨o, s, t, d, a, i, e⟩)).2 = false ∧ F = F0 ∧ C = putC m.c (opD ⟨o, s, t, d, a, i, e⟩) (aluV o (opX m.c ⟨o, s, t, d, a, i, e⟩) (opY m.c ⟨o, s, t, d, a, i, e⟩)).1)) =>
    compute_raw hx tx M0.out.c2 o s t d a i (opX m.c ⟨o, s, t, d, a, i, e⟩) (opY m.c ⟨o, s, t, d, a, i, e⟩) (aluV o (opX m.c ⟨o, s, t, d, a, i, e⟩) (opY m.c ⟨o, s, t, d, a, i, e⟩)).1 (opD ⟨o, s, t, d, a, i, e⟩) (aluV o (opX m.c ⟨o, s, t, d, a, i, e⟩) (opY m.c ⟨o, s, t, d, a, i, e⟩)).2 (opD_lt o s t d a i e ht hd)
      (fun x hx tx => operands_any hx tx o s t d a i e hs ht hd ha ho) (fun x => result_any o _ _ hX.out hY.out ho x) F C hO
  have hW := hide (putC_w M0.out.wc (opD ⟨o, s, t, d, a, i, e⟩) (aluV_w (o := o) (y := opY m.c ⟨o, s, t, d, a, i, e⟩) hX.out))
  clear hX hY
  obtain ⟨G, F, C, hV, hO, hC⟩ : ∃ G F C, aluM m ⟨o, s, t, d, a, i, e⟩ = ⟨{ m with c := C }, F, !G⟩ ∧ (((aluV o (opX m.c ⟨o, s, t, d, a, i, e⟩) (opY m.c ⟨o, s, t, d, a, i, e⟩)).2 = G) ∧ (((aluV o (opX m.c ⟨o, s, t, d, a, i, e⟩) (opY m.c ⟨o, s, t, d, a, i, e⟩)).2 = true ∧ F = ftC 12 ∧ C = m.c) ∨ ((aluV o (opX m.c ⟨o, s, t, d, a, i, e⟩) (opY m.c ⟨o, s, t, d, a, i, e⟩)).2 = false ∧ F = F0 ∧ C = putC m.c (opD ⟨o, s, t, d, a, i, e⟩) (aluV o (opX m.c ⟨o, s, t, d, a, i, e⟩) (opY m.c ⟨o, s, t, d, a, i, e⟩)).1))) ∧ Wc C := by
    unfold aluM
    cases hG : (aluV o (opX m.c ⟨o, s, t, d, a, i, e⟩) (opY m.c ⟨o, s, t, d, a, i, e⟩)).2 with
    | true => exact ⟨true, ftC 12, m.c, rfl, ⟨rfl, Or.inl ⟨rfl, rfl, rfl⟩⟩, M0.out.wc⟩
    | false => exact ⟨false, F0, _, rfl, ⟨rfl, Or.inr ⟨rfl, rfl, rfl⟩⟩, hW.out⟩
  rw [hV]
  have cd := hide fun x hx tx => cc.out x hx tx F C hO.2
  rw [hO.1] at cd
  clear hV hW cc hO ho
  replace hC := hide hC
  go_enter Tryz.func27, Tryz.ntmps27
  go_wp2_with fail
  go_region
  replace M0 := hide M0.out.drew
  replace L0 := hide L0.out.drew
  replace R0 := hide R0.out.drew
  replace K0 := hide K0.out.drew
  obtain ⟨l1, l2, l3, l4, l5⟩ := L0.out.cells
  go_wp2_with fail
  refine (cd.out _ M0.out.bx M0.out.tb).mono ?_
  rintro r x2 ⟨rfl, B2, K2⟩
  have M4 := hide (M0.out.state B2 K2 hC.out)
  have K4 := hide (K0.out.trans (K2.mono (by simp)))
  have R4 := hide (R0.out.kept K2 (by simp; omega))
  clear l1 l2 l3 l4 l5 r1 r2 r3 r4 r5 B2 K2
  have hst := fun f => (R4.out.last0 f).1
  have hld := hide fun f => (R4.out.last0 f).2
  go_wp2
  exact bodyPost_ret (v := .tuple #[.agg (cellsF F), .bool (!G)]) (by simp [results, Tryz.results27, go_sem, zf1, zf5, hld.out]) rfl ⟨rfl, M4.out.far (w.heap.size + 1) _ (by omega) (by omega) (by omega) (by omega) (by omega), K4.out.late (w.heap.size + 1) _ (by omega)⟩

end Go.Proofs.YtmegghgjllbamaaGreatDoor

/- Layer 13: contract of the program's Step. -/
namespace Go.Proofs.YtmegghgjllbamaaGreatDoor
open Go.RowKit
set_option linter.unusedVariables false
set_option maxRecDepth 100000
set_option linter.unusedSimpArgs false

/-- A frame of which four slots are told. -/
theorem frame_is (f : Nat → Value) (b0 b1 b4 b5 : Value) : (#[b0, b1, f 2, f 3, b4, b5, f 6, f 7, f 8, f 9, f 10, f 11, f 12, f 13, f 14, f 15, f 16, f 17, f 18, f 19, f 20, f 21, f 22, f 23, f 24, f 25, f 26, f 27, f 28, f 29, f 30, f 31, f 32, f 33, f 34, f 35, f 36, f 37, f 38, f 39, f 40, f 41, f 42, f 43, f 44, f 45, f 46, f 47, f 48, f 49, f 50, f 51, f 52, f 53, f 54, f 55, f 56, f 57, f 58, f 59, f 60, f 61, f 62, f 63, f 64, f 65, f 66, f 67, f 68, f 69, f 70, f 71, f 72, f 73, f 74, f 75, f 76, f 77, f 78, f 79, f 80, f 81, f 82, f 83, f 84, f 85, f 86, f 87, f 88, f 89, f 90, f 91, f 92, f 93, f 94, f 95, f 96, f 97, f 98, f 99, f 100, f 101, f 102] : Array Value) = ((List.range 103).map fun k => if k = 0 then b0 else if k = 1 then b1 else if k = 4 then b4 else if k = 5 then b5 else f k).toArray := rfl

theorem frame_of {t : Array Value} {b0 b1 b4 b5 : Value} (hs : t.size = 103) (h0 : t[0]? = some b0) (h1 : t[1]? = some b1) (h4 : t[4]? = some b4) (h5 : t[5]? = some b5) :
    ∃ f : Nat → Value, ({ tmps := t, defers := [] } : Act) = { tmps := #[b0, b1, f 2, f 3, b4, b5, f 6, f 7, f 8, f 9, f 10, f 11, f 12, f 13, f 14, f 15, f 16, f 17, f 18, f 19, f 20, f 21, f 22, f 23, f 24, f 25, f 26, f 27, f 28, f 29, f 30, f 31, f 32, f 33, f 34, f 35, f 36, f 37, f 38, f 39, f 40, f 41, f 42, f 43, f 44, f 45, f 46, f 47, f 48, f 49, f 50, f 51, f 52, f 53, f 54, f 55, f 56, f 57, f 58, f 59, f 60, f 61, f 62, f 63, f 64, f 65, f 66, f 67, f 68, f 69, f 70, f 71, f 72, f 73, f 74, f 75, f 76, f 77, f 78, f 79, f 80, f 81, f 82, f 83, f 84, f 85, f 86, f 87, f 88, f 89, f 90, f 91, f 92, f 93, f 94, f 95, f 96, f 97, f 98, f 99, f 100, f 101, f 102], defers := [] } := by
  refine ⟨fun k => t.getD k undef, ?_⟩
  refine Eq.trans ?_ (congrArg (fun x => ({ tmps := x, defers := [] } : Act)) (frame_is (fun k => t.getD k undef) b0 b1 b4 b5).symm)
  congr 1
  apply Array.ext_getElem?
  intro k
  by_cases hk : k < 103
  · have e : t[k]? = some (t.getD k undef) := by
      rw [Array.getD_eq_getD_getElem?, Array.getElem?_eq_getElem (by omega)]; rfl
    simp only [List.getElem?_toArray, List.getElem?_map, List.getElem?_range hk, Option.map_some]
    repeat' split
    next h => rw [h]; exact h0
    next h => rw [h]; exact h1
    next h => rw [h]; exact h4
    next h => rw [h]; exact h5
    · exact e
  · rw [Array.getElem?_eq_none (by omega), Array.getElem?_eq_none (by simp; omega)]

theorem goes_is : ∀ op < 69, goesV ((op : Nat) : Int) = decide (op = 6 ∨ op = 7 ∨ (35 ≤ op ∧ op ≤ 44)) := by decide +kernel

/-- An instruction that is neither branch nor jump. -/
theorem do_any {w : World} {cb bb p g n cp : Nat} {m : Mc} (h : Mach w cb bb p g n cp m) (op s t d a : Nat) (i e : Int) (hop : op < 69) (hs : s < 32) (ht : t < 32) (hd : d < 32) (ha : a < 32) (hg : goesV ((op : Nat) : Int) = false) :
    Calls Tryz.prog 27 #[.pointer (some ⟨cb, 0, none⟩), .pointer (some ⟨bb, 0, none⟩), .agg (cellsI ⟨op, s, t, d, a, i, e⟩)] w fun r w' =>
      r = .returned (.tuple #[.agg (cellsF (doM n m ⟨op, s, t, d, a, i, e⟩).f), .bool (doM n m ⟨op, s, t, d, a, i, e⟩).k]) ∧ Mach w' cb bb p g n cp (doM n m ⟨op, s, t, d, a, i, e⟩).m ∧ Kept [cb, bb, g] w w' := by
  rw [goes_is op hop] at hg
  have hn : ¬ (op = 6 ∨ op = 7 ∨ (35 ≤ op ∧ op ≤ 44)) := by simpa using hg
  by_cases c1 : op = 10 ∨ op = 11 ∨ op = 30 ∨ op = 31
  · exact do_A h op s t d a i e hs ht hd ha (by omega)
  by_cases c2 : op = 8 ∨ op = 9
  · exact do_B h op s t d a i e hs ht hd ha (by omega)
  by_cases c3 : 12 ≤ op ∧ op ≤ 15
  · exact do_C h op s t d a i e hs ht hd ha (by omega)
  by_cases c4 : 16 ≤ op ∧ op ≤ 19
  · exact do_D h op s t d a i e hs ht hd ha (by omega)
  by_cases c5 : 53 ≤ op ∧ op ≤ 58
  · exact do_E h op s t d a i e hs ht hd ha (by omega)
  by_cases c6 : 59 ≤ op ∧ op ≤ 63 ∨ op = 67
  · exact do_F h op s t d a i e hs ht hd ha (by omega)
  by_cases c7 : 64 ≤ op ∧ op ≤ 66 ∨ op = 68
  · exact do_G h op s t d a i e hs ht hd ha (by omega)
  · exact do_H h op s t d a i e hs ht hd ha (by unfold isAlu; omega)

theorem ftV_ok {n : Nat} {c : Cs} {B : Nat → Nat} (hB : ∀ j, B j < 256) (h : (ftV n c B).2.2 = true) :
    ∃ (op s t d a : Nat) (i e : Int), op < 69 ∧ s < 32 ∧ t < 32 ∧ d < 32 ∧ a < 32 ∧ (ftV n c B).1 = ⟨op, s, t, d, a, i, e⟩ := by
  unfold ftV at h ⊢
  have hX := memX_w (n := n) hB (plV c c.pc 4 false).1 4
  generalize memX n B (plV c c.pc 4 false).1 4 = X at *
  split at h
  · cases h
  split at h
  · cases h
  split at h
  · cases h
  next h1 h2 h3 =>
    rw [if_neg h1, if_neg h2, if_neg h3]
    have he : (decV X).e = 0 := by
      by_cases he : (decV X).e = 0
      · exact he
      · exact absurd (Or.inl he) h3
    rcases decV_told X hX with ⟨op, ho, -, e1, e2, e3, e4, e5, e6, e7⟩ | ⟨-, -, -, -, -, -, -, e7⟩
    · refine ⟨op, De.Dec.ds op X.toNat, De.Dec.dt op X.toNat, De.Dec.dd op X.toNat, De.Dec.da op X.toNat, De.Dec.di op X.toNat, 0, ho, Nat.mod_lt _ (by decide), Nat.mod_lt _ (by decide), Nat.mod_lt _ (by decide), Nat.mod_lt _ (by decide), ?_⟩
      show decV X = _
      cases hD : decV X with
      | mk o s t d a i e =>
        rw [hD] at e1 e2 e3 e4 e5 e6 e7
        dsimp only at e1 e2 e3 e4 e5 e6 e7
        rw [e1, e2, e3, e4, e5, e6, e7]
    · rw [he] at e7; cases e7

theorem plV_ad {c : Cs} {a : Int} (ha : Cp.W32 a) (z : Int) (wr : Bool) : (plV c a z wr).2.1.bd = true → Cp.W32 (plV c a z wr).2.1.ad := by
  unfold plV
  repeat' split
  · intro _; exact ha
  · intro h; cases h
  · intro _; exact ha

theorem ftV_ad {n : Nat} {c : Cs} (hc : Wc c) (B : Nat → Nat) : (ftV n c B).2.1.bd = true → Cp.W32 (ftV n c B).2.1.ad := by
  unfold ftV
  repeat' split
  · exact plV_ad hc.pc 4 false
  all_goals (intro h; cases h)

theorem doM_ad (n : Nat) (m : Mc) (I : Ins) : (doM n m I).f.bd = true → Cp.W32 (doM n m I).f.ad := by
  have ha : (aluM m I).f.bd = true → Cp.W32 (aluM m I).f.ad := by unfold aluM; split <;> (intro h; cases h)
  have hl : (loadM n m I).f.bd = true → Cp.W32 (loadM n m I).f.ad := by
    unfold loadM
    split
    · exact plV_ad (adrV_w _ _) _ _
    · split <;> (intro h; cases h)
  have hs : (storeM n m I).f.bd = true → Cp.W32 (storeM n m I).f.ad := by
    unfold storeM
    split
    · exact plV_ad (adrV_w _ _) _ _
    · split
      · intro h; cases h
      · split <;> (intro h; cases h)
  unfold doM
  repeat' split
  all_goals first | exact ha | exact hl | exact hs | (intro h; cases h)

theorem lines_w (v : Dv) : Cp.W32 (linesV v) := by
  unfold linesV bitN
  repeat' split
  all_goals exact ⟨by decide, by decide⟩

theorem jump_norm {l : Nat} {J : Act → World → Prop} {Q : Exit → Act → World → Prop} {a : Act} {w : World} : Exit.jump l J Q .normal a w = Q .normal a w := rfl

theorem jump_back {l : Nat} {J : Act → World → Prop} {Q : Exit → Act → World → Prop} {a : Act} {w : World} : Exit.jump l J Q .ret a w = Q .ret a w := rfl

/-- What stands at the label: a machine, why it can't go on, and what the step makes of them. -/
structure At (w : World) (cb bb p g n cp : Nat) (m : Mc) (w' : World) (M : Mc) (F : Ft) : Prop where
  mm : Mach w' cb bb p g n cp M
  ff : Box w' (w.heap.size + 1) (cellsF F)
  kk : Kept [cb, bb, g] w w'
  ss : stepM n m = { M with c := faultC M.c F }
  aa : F.bd = true → Cp.W32 F.ad

set_option maxHeartbeats 1500000 in
set_option maxRecDepth 100000 in
theorem step_any {w : World} {cb bb p g n cp : Nat} {m : Mc} (h : Mach w cb bb p g n cp m) (hz : m.c.R 0 = 0) :
    Calls Tryz.prog 10 #[.pointer (some ⟨cb, 0, none⟩), .pointer (some ⟨bb, 0, none⟩)] w fun r w' =>
      r = .returned (.tuple #[]) ∧ Mach w' cb bb p g n cp (stepM n m) ∧ Kept [cb, bb, g] w w' := by
  obtain ⟨zf1, zf2, zf3, zf4, zf5, zf6, zf7, zf8, zf9, zf10⟩ := ftRules
  obtain ⟨zi1, zi2, zi3, zi4, zi5, zi6, zi7, zi8, zi9, zi10, zi11⟩ := insRules
  obtain ⟨p0, p1, p2, p3, p4, p5, p6, p7, p8, p9⟩ := cParts
  have hbb : bb < w.heap.size := h.bus.lt
  have hgg : g < w.heap.size := h.bus.m.zg
  have hcc : cb < w.heap.size := h.bx.2.2
  have hpp : p < w.heap.size := h.bus.m.zp
  have h2 : 2 ≤ w.heap.size := h.tb.n
  replace h := hide h
  replace hz := hide hz
  go_enter Tryz.func10, Tryz.ntmps10
  go_wp2
  refine wp_scope_jumps 0 (fun a' w' => (∃ f : Nat → Value, a' = { tmps := #[.pointer (some ⟨cb, 0, none⟩), .pointer (some ⟨bb, 0, none⟩), f 2, f 3, .pointer (some ⟨w.heap.size, 0, none⟩), .pointer (some ⟨w.heap.size + 1, 0, none⟩), f 6, f 7, f 8, f 9, f 10, f 11, f 12, f 13, f 14, f 15, f 16, f 17, f 18, f 19, f 20, f 21, f 22, f 23, f 24, f 25, f 26, f 27, f 28, f 29, f 30, f 31, f 32, f 33, f 34, f 35, f 36, f 37, f 38, f 39, f 40, f 41, f 42, f 43, f 44, f 45, f 46, f 47, f 48, f 49, f 50, f 51, f 52, f 53, f 54, f 55, f 56, f 57, f 58, f 59, f 60, f 61, f 62, f 63, f 64, f 65, f 66, f 67, f 68, f 69, f 70, f 71, f 72, f 73, f 74, f 75, f 76, f 77, f 78, f 79, f 80, f 81, f 82, f 83, f 84, f 85, f 86, f 87, f 88, f 89, f 90, f 91, f 92, f 93, f 94, f 95, f 96, f 97, f 98, f 99, f 100, f 101, f 102], defers := [] }) ∧ ∃ M F, Hid (At w cb bb p g n cp m w' M F)) (fun _ _ => 0) rfl ?_ ?_
  case refine_2 =>
    rintro a' w' ⟨⟨f, rfl⟩, M, F, HA⟩
    obtain ⟨Fc, Fr, Fb, Fa, Fp⟩ := F
    have hf0 : w'.cell? ⟨w.heap.size + 1, 0, none⟩ = some (.int .i64 Fc) := HA.out.ff.cell 0
    have hf1 : w'.cell? ⟨w.heap.size + 1, 1, none⟩ = some (.bool Fr) := HA.out.ff.cell 1
    have hf2 : w'.cell? ⟨w.heap.size + 1, 2, none⟩ = some (.bool Fb) := HA.out.ff.cell 2
    obtain ⟨z1, z2, z3, z4, z5, z6, z7, z8, z9, z10, z11, z12, z13, z14, z15⟩ := cSizes
    have f7 := cWhole.2.2.2.2.2.2.1
    have s1 := cSets.2.1
    cases Fb
    · obtain ⟨N, hN⟩ : ∃ N, N = M := ⟨M, rfl⟩
      have hEnd : Hid (stepM n m = { N with c := gone { N.c with C := (Cp.raiseV N.c.C Fc Fr N.c.pc N.c.dl), nx := Cp.toV N.c.C Fr } (Cp.toV N.c.C Fr) }) := by
        subst hN
        exact hide HA.out.ss
      subst hN
      have M1 := hide HA.out.mm.drew
      have K1 := hide HA.out.kk.drew
      have hB0 := hide HA.out.ff.drew
      clear HA
      go_wp2_with fail
      refine wp_region_held_drew (S := fun x => Box x (w.heap.size + 1) (cellsF ⟨Fc, Fr, false, Fa, Fp⟩) ∧ x.cell? ⟨cb, 0, none⟩ = some (.int .u32 N.c.pc) ∧ x.cell? ⟨cb, 2, none⟩ = some (.bool N.c.dl)) (by kernel_rfl) ⟨hB0.out, M1.out.bx.cell 0, M1.out.bx.cell 2⟩ (fun hHeld => ?_)
      clear hf0 hf1 hf2
      generalize w'.drew = xd at *
      have crs := hide fun x => Cp.raise_any M1.out.wc.C Fc Fr M1.out.wc.pc N.c.dl x
      have hrw : Hid (Wc { N.c with C := (Cp.raiseV N.c.C Fc Fr N.c.pc N.c.dl) }) := hide ⟨M1.out.wc.pc, M1.out.wc.nx, M1.out.wc.R, M1.out.wc.hi, M1.out.wc.lo, Cp.raise_w M1.out.wc.C Fc Fr M1.out.wc.pc N.c.dl, M1.out.wc.T⟩
      have hnw : Hid (Wc { N.c with C := (Cp.raiseV N.c.C Fc Fr N.c.pc N.c.dl), nx := Cp.toV N.c.C Fr }) := hide ⟨M1.out.wc.pc, to_w _ _, M1.out.wc.R, M1.out.wc.hi, M1.out.wc.lo, Cp.raise_w M1.out.wc.C Fc Fr M1.out.wc.pc N.c.dl, M1.out.wc.T⟩
      refine wpAnyH_take (i := 0) (oi := { dst := some 72, op := Op.move (Operand.tmp 0), type := 44, pos := "cpu.go:119", after := #[], guard := none }) (v := ?_) rfl (by kernel_rfl) (by kernel_rfl) (by kernel_rfl) (fun _ _ _ h => h) (Or.inl ⟨by rfl, ?_⟩) (by assumption) ?_
      rotate_left
      · intro y hSw
        have q0 : y.cell? ⟨w.heap.size + 1, 0, none⟩ = some (.int .i64 Fc) := hSw.1.cell 0; have q1 : y.cell? ⟨w.heap.size + 1, 1, none⟩ = some (.bool Fr) := hSw.1.cell 1; have q2 := hSw.2.1; have q3 := hSw.2.2
        go_simp
        try with_reducible rfl
      try simp only [Act.put, List.setIfInBounds_toArray, List.set_cons_zero, List.set_cons_succ]
      refine wpAnyH_take (i := 1) (oi := { dst := some 73, op := Op.move (Operand.tmp 0), type := 44, pos := "cpu.go:119", after := #[{ on := 24, ground := Ground.gcOnly Departure.lateStores }], guard := none }) (v := ?_) rfl (by kernel_rfl) (by kernel_rfl) (by kernel_rfl) (fun _ _ _ h => h) (Or.inl ⟨by rfl, ?_⟩) (by assumption) ?_
      rotate_left
      · intro y hSw
        have q0 : y.cell? ⟨w.heap.size + 1, 0, none⟩ = some (.int .i64 Fc) := hSw.1.cell 0; have q1 : y.cell? ⟨w.heap.size + 1, 1, none⟩ = some (.bool Fr) := hSw.1.cell 1; have q2 := hSw.2.1; have q3 := hSw.2.2
        go_simp
        try with_reducible rfl
      try simp only [Act.put, List.setIfInBounds_toArray, List.set_cons_zero, List.set_cons_succ]
      refine wpAnyH_take (i := 2) (oi := { dst := some 74, op := Op.move (Operand.tmp 0), type := 44, pos := "cpu.go:119", after := #[], guard := none }) (v := ?_) rfl (by kernel_rfl) (by kernel_rfl) (by kernel_rfl) (fun _ _ _ h => h) (Or.inl ⟨by rfl, ?_⟩) (by assumption) ?_
      rotate_left
      · intro y hSw
        have q0 : y.cell? ⟨w.heap.size + 1, 0, none⟩ = some (.int .i64 Fc) := hSw.1.cell 0; have q1 : y.cell? ⟨w.heap.size + 1, 1, none⟩ = some (.bool Fr) := hSw.1.cell 1; have q2 := hSw.2.1; have q3 := hSw.2.2
        go_simp
        try with_reducible rfl
      try simp only [Act.put, List.setIfInBounds_toArray, List.set_cons_zero, List.set_cons_succ]
      refine wpAnyH_take (i := 3) (oi := { dst := some 75, op := Op.nilCheck (Operand.tmp 74), type := 0, pos := "cpu.go:119", after := #[{ on := 2, ground := Ground.data }], guard := none }) (v := ?_) rfl (by kernel_rfl) (by kernel_rfl) (by kernel_rfl) (fun _ _ _ h => h) (Or.inl ⟨by rfl, ?_⟩) (by assumption) ?_
      rotate_left
      · intro y hSw
        have q0 : y.cell? ⟨w.heap.size + 1, 0, none⟩ = some (.int .i64 Fc) := hSw.1.cell 0; have q1 : y.cell? ⟨w.heap.size + 1, 1, none⟩ = some (.bool Fr) := hSw.1.cell 1; have q2 := hSw.2.1; have q3 := hSw.2.2
        go_simp
        try with_reducible rfl
      try simp only [Act.put, List.setIfInBounds_toArray, List.set_cons_zero, List.set_cons_succ]
      refine wpAnyH_take (i := 4) (oi := { dst := some 76, op := Op.fieldAddr 40 (Operand.tmp 75) 7, type := 0, pos := "cpu.go:119", after := #[{ on := 3, ground := Ground.data }], guard := none }) (v := ?_) rfl (by kernel_rfl) (by kernel_rfl) (by kernel_rfl) (fun _ _ _ h => h) (Or.inl ⟨by rfl, ?_⟩) (by assumption) ?_
      rotate_left
      · intro y hSw
        have q0 : y.cell? ⟨w.heap.size + 1, 0, none⟩ = some (.int .i64 Fc) := hSw.1.cell 0; have q1 : y.cell? ⟨w.heap.size + 1, 1, none⟩ = some (.bool Fr) := hSw.1.cell 1; have q2 := hSw.2.1; have q3 := hSw.2.2
        go_simp
        try with_reducible rfl
      try simp only [Act.put, List.setIfInBounds_toArray, List.set_cons_zero, List.set_cons_succ]
      refine wpAnyH_take (i := 6) (oi := { dst := some 78, op := Op.fieldAddr 75 (Operand.tmp 5) 0, type := 0, pos := "cpu.go:119", after := #[], guard := none }) (v := ?_) rfl (by kernel_rfl) (by kernel_rfl) (by kernel_rfl) (fun _ _ _ h => h) (Or.inl ⟨by rfl, ?_⟩) (by assumption) ?_
      rotate_left
      · intro y hSw
        have q0 : y.cell? ⟨w.heap.size + 1, 0, none⟩ = some (.int .i64 Fc) := hSw.1.cell 0; have q1 : y.cell? ⟨w.heap.size + 1, 1, none⟩ = some (.bool Fr) := hSw.1.cell 1; have q2 := hSw.2.1; have q3 := hSw.2.2
        go_simp
        try with_reducible rfl
      try simp only [Act.put, List.setIfInBounds_toArray, List.set_cons_zero, List.set_cons_succ]
      refine wpAnyH_take (i := 7) (oi := { dst := some 79, op := Op.load 3 (Operand.tmp 78), type := 3, pos := "cpu.go:119", after := #[{ on := 6, ground := Ground.data }], guard := none }) (v := ?_) rfl (by kernel_rfl) (by kernel_rfl) (by kernel_rfl) (fun _ _ _ h => h) (Or.inl ⟨by rfl, ?_⟩) (by assumption) ?_
      rotate_left
      · intro y hSw
        have q0 : y.cell? ⟨w.heap.size + 1, 0, none⟩ = some (.int .i64 Fc) := hSw.1.cell 0; have q1 : y.cell? ⟨w.heap.size + 1, 1, none⟩ = some (.bool Fr) := hSw.1.cell 1; have q2 := hSw.2.1; have q3 := hSw.2.2
        go_simp
        try with_reducible rfl
      try simp only [Act.put, List.setIfInBounds_toArray, List.set_cons_zero, List.set_cons_succ]
      refine wpAnyH_take (i := 8) (oi := { dst := some 80, op := Op.fieldAddr 75 (Operand.tmp 5) 1, type := 0, pos := "cpu.go:119", after := #[], guard := none }) (v := ?_) rfl (by kernel_rfl) (by kernel_rfl) (by kernel_rfl) (fun _ _ _ h => h) (Or.inl ⟨by rfl, ?_⟩) (by assumption) ?_
      rotate_left
      · intro y hSw
        have q0 : y.cell? ⟨w.heap.size + 1, 0, none⟩ = some (.int .i64 Fc) := hSw.1.cell 0; have q1 : y.cell? ⟨w.heap.size + 1, 1, none⟩ = some (.bool Fr) := hSw.1.cell 1; have q2 := hSw.2.1; have q3 := hSw.2.2
        go_simp
        try with_reducible rfl
      try simp only [Act.put, List.setIfInBounds_toArray, List.set_cons_zero, List.set_cons_succ]
      refine wpAnyH_take (i := 9) (oi := { dst := some 81, op := Op.load 4 (Operand.tmp 80), type := 4, pos := "cpu.go:119", after := #[{ on := 8, ground := Ground.data }], guard := none }) (v := ?_) rfl (by kernel_rfl) (by kernel_rfl) (by kernel_rfl) (fun _ _ _ h => h) (Or.inl ⟨by rfl, ?_⟩) (by assumption) ?_
      rotate_left
      · intro y hSw
        have q0 : y.cell? ⟨w.heap.size + 1, 0, none⟩ = some (.int .i64 Fc) := hSw.1.cell 0; have q1 : y.cell? ⟨w.heap.size + 1, 1, none⟩ = some (.bool Fr) := hSw.1.cell 1; have q2 := hSw.2.1; have q3 := hSw.2.2
        go_simp
        try with_reducible rfl
      try simp only [Act.put, List.setIfInBounds_toArray, List.set_cons_zero, List.set_cons_succ]
      refine wpAnyH_take (i := 10) (oi := { dst := some 82, op := Op.move (Operand.tmp 0), type := 44, pos := "cpu.go:119", after := #[], guard := none }) (v := ?_) rfl (by kernel_rfl) (by kernel_rfl) (by kernel_rfl) (fun _ _ _ h => h) (Or.inl ⟨by rfl, ?_⟩) (by assumption) ?_
      rotate_left
      · intro y hSw
        have q0 : y.cell? ⟨w.heap.size + 1, 0, none⟩ = some (.int .i64 Fc) := hSw.1.cell 0; have q1 : y.cell? ⟨w.heap.size + 1, 1, none⟩ = some (.bool Fr) := hSw.1.cell 1; have q2 := hSw.2.1; have q3 := hSw.2.2
        go_simp
        try with_reducible rfl
      try simp only [Act.put, List.setIfInBounds_toArray, List.set_cons_zero, List.set_cons_succ]
      refine wpAnyH_take (i := 11) (oi := { dst := some 83, op := Op.nilCheck (Operand.tmp 82), type := 0, pos := "cpu.go:119", after := #[{ on := 10, ground := Ground.data }], guard := none }) (v := ?_) rfl (by kernel_rfl) (by kernel_rfl) (by kernel_rfl) (fun _ _ _ h => h) (Or.inl ⟨by rfl, ?_⟩) (by assumption) ?_
      rotate_left
      · intro y hSw
        have q0 : y.cell? ⟨w.heap.size + 1, 0, none⟩ = some (.int .i64 Fc) := hSw.1.cell 0; have q1 : y.cell? ⟨w.heap.size + 1, 1, none⟩ = some (.bool Fr) := hSw.1.cell 1; have q2 := hSw.2.1; have q3 := hSw.2.2
        go_simp
        try with_reducible rfl
      try simp only [Act.put, List.setIfInBounds_toArray, List.set_cons_zero, List.set_cons_succ]
      refine wpAnyH_take (i := 12) (oi := { dst := some 84, op := Op.fieldAddr 40 (Operand.tmp 83) 0, type := 0, pos := "cpu.go:119", after := #[{ on := 11, ground := Ground.data }], guard := none }) (v := ?_) rfl (by kernel_rfl) (by kernel_rfl) (by kernel_rfl) (fun _ _ _ h => h) (Or.inl ⟨by rfl, ?_⟩) (by assumption) ?_
      rotate_left
      · intro y hSw
        have q0 : y.cell? ⟨w.heap.size + 1, 0, none⟩ = some (.int .i64 Fc) := hSw.1.cell 0; have q1 : y.cell? ⟨w.heap.size + 1, 1, none⟩ = some (.bool Fr) := hSw.1.cell 1; have q2 := hSw.2.1; have q3 := hSw.2.2
        go_simp
        try with_reducible rfl
      try simp only [Act.put, List.setIfInBounds_toArray, List.set_cons_zero, List.set_cons_succ]
      refine wpAnyH_take (i := 13) (oi := { dst := some 85, op := Op.load 23 (Operand.tmp 84), type := 23, pos := "cpu.go:119", after := #[{ on := 12, ground := Ground.data }], guard := none }) (v := ?_) rfl (by kernel_rfl) (by kernel_rfl) (by kernel_rfl) (fun _ _ _ h => h) (Or.inl ⟨by rfl, ?_⟩) (by assumption) ?_
      rotate_left
      · intro y hSw
        have q0 : y.cell? ⟨w.heap.size + 1, 0, none⟩ = some (.int .i64 Fc) := hSw.1.cell 0; have q1 : y.cell? ⟨w.heap.size + 1, 1, none⟩ = some (.bool Fr) := hSw.1.cell 1; have q2 := hSw.2.1; have q3 := hSw.2.2
        go_simp
        try with_reducible rfl
      try simp only [Act.put, List.setIfInBounds_toArray, List.set_cons_zero, List.set_cons_succ]
      refine wpAnyH_take (i := 14) (oi := { dst := some 86, op := Op.move (Operand.tmp 0), type := 44, pos := "cpu.go:119", after := #[], guard := none }) (v := ?_) rfl (by kernel_rfl) (by kernel_rfl) (by kernel_rfl) (fun _ _ _ h => h) (Or.inl ⟨by rfl, ?_⟩) (by assumption) ?_
      rotate_left
      · intro y hSw
        have q0 : y.cell? ⟨w.heap.size + 1, 0, none⟩ = some (.int .i64 Fc) := hSw.1.cell 0; have q1 : y.cell? ⟨w.heap.size + 1, 1, none⟩ = some (.bool Fr) := hSw.1.cell 1; have q2 := hSw.2.1; have q3 := hSw.2.2
        go_simp
        try with_reducible rfl
      try simp only [Act.put, List.setIfInBounds_toArray, List.set_cons_zero, List.set_cons_succ]
      refine wpAnyH_take (i := 15) (oi := { dst := some 87, op := Op.nilCheck (Operand.tmp 86), type := 0, pos := "cpu.go:119", after := #[{ on := 14, ground := Ground.data }], guard := none }) (v := ?_) rfl (by kernel_rfl) (by kernel_rfl) (by kernel_rfl) (fun _ _ _ h => h) (Or.inl ⟨by rfl, ?_⟩) (by assumption) ?_
      rotate_left
      · intro y hSw
        have q0 : y.cell? ⟨w.heap.size + 1, 0, none⟩ = some (.int .i64 Fc) := hSw.1.cell 0; have q1 : y.cell? ⟨w.heap.size + 1, 1, none⟩ = some (.bool Fr) := hSw.1.cell 1; have q2 := hSw.2.1; have q3 := hSw.2.2
        go_simp
        try with_reducible rfl
      try simp only [Act.put, List.setIfInBounds_toArray, List.set_cons_zero, List.set_cons_succ]
      refine wpAnyH_take (i := 16) (oi := { dst := some 88, op := Op.fieldAddr 40 (Operand.tmp 87) 2, type := 0, pos := "cpu.go:119", after := #[{ on := 15, ground := Ground.data }], guard := none }) (v := ?_) rfl (by kernel_rfl) (by kernel_rfl) (by kernel_rfl) (fun _ _ _ h => h) (Or.inl ⟨by rfl, ?_⟩) (by assumption) ?_
      rotate_left
      · intro y hSw
        have q0 : y.cell? ⟨w.heap.size + 1, 0, none⟩ = some (.int .i64 Fc) := hSw.1.cell 0; have q1 : y.cell? ⟨w.heap.size + 1, 1, none⟩ = some (.bool Fr) := hSw.1.cell 1; have q2 := hSw.2.1; have q3 := hSw.2.2
        go_simp
        try with_reducible rfl
      try simp only [Act.put, List.setIfInBounds_toArray, List.set_cons_zero, List.set_cons_succ]
      refine wpAnyH_take (i := 17) (oi := { dst := some 89, op := Op.load 4 (Operand.tmp 88), type := 4, pos := "cpu.go:119", after := #[{ on := 16, ground := Ground.data }], guard := none }) (v := ?_) rfl (by kernel_rfl) (by kernel_rfl) (by kernel_rfl) (fun _ _ _ h => h) (Or.inl ⟨by rfl, ?_⟩) (by assumption) ?_
      rotate_left
      · intro y hSw
        have q0 : y.cell? ⟨w.heap.size + 1, 0, none⟩ = some (.int .i64 Fc) := hSw.1.cell 0; have q1 : y.cell? ⟨w.heap.size + 1, 1, none⟩ = some (.bool Fr) := hSw.1.cell 1; have q2 := hSw.2.1; have q3 := hSw.2.2
        go_simp
        try with_reducible rfl
      try simp only [Act.put, List.setIfInBounds_toArray, List.set_cons_zero, List.set_cons_succ]
      refine wpAnyH_ready (rs := [5]) (by kernel_rfl) (by simp) ?_
      refine AllReadyH.cons (o := { dst := some 77, op := Op.load 34 (Operand.tmp 76), type := 34, pos := "cpu.go:119", after := #[{ on := 4, ground := Ground.data }], guard := none }) rfl (fun K hK => ?_) AllReadyH.nil
      have ld38 := M1.out.bx.loads (d := Cp.cellsR N.c.C) 38 Cp.N9 rfl rfl
      go_simp
      refine hK.out _ _ (hHeld) (fun hHeld => ?_)
      clear hK K
      try simp only [Act.put, List.setIfInBounds_toArray, List.set_cons_zero, List.set_cons_succ]
      clear ld38
      refine wpAnyH_ready (rs := [18]) (by kernel_rfl) (by simp) ?_
      refine AllReadyH.cons (o := { dst := some 90, op := Op.call { callee := Callee.value (Operand.func 29), args := #[Operand.tmp 77, Operand.tmp 79, Operand.tmp 81, Operand.tmp 85, Operand.tmp 89], argTypes := #[34, 3, 4, 23, 4] }, type := 86, pos := "cpu.go:119", after := #[{ on := 5, ground := Ground.data }, { on := 7, ground := Ground.data }, { on := 9, ground := Ground.data }, { on := 13, ground := Ground.data }, { on := 17, ground := Ground.data }], guard := none }) rfl (fun K hK => ?_) AllReadyH.nil
      go_simp
      refine (crs.out _).mono ?_
      rintro r x1 ⟨rfl, b1⟩
      replace M1 := hide (M1.out.on b1)
      replace K1 := hide (K1.out.trans (Kept.of b1))
      go_wp2_with fail
      refine hK.out _ _ (⟨hHeld.1.on b1, M1.out.bx.cell 0, M1.out.bx.cell 2⟩) (fun hHeld => ?_)
      clear hK K
      try simp only [Act.put, List.setIfInBounds_toArray, List.set_cons_zero, List.set_cons_succ]
      clear b1
      refine wpAnyH_take (i := 19) (oi := { dst := some 71, op := Op.move (Operand.tmp 90), type := 86, pos := "cpu.go:119", after := #[{ on := 18, ground := Ground.data }], guard := none }) (v := ?_) rfl (by kernel_rfl) (by kernel_rfl) (by kernel_rfl) (fun _ _ _ h => h) (Or.inl ⟨by rfl, ?_⟩) (by assumption) ?_
      rotate_left
      · intro y hSw
        have q0 : y.cell? ⟨w.heap.size + 1, 0, none⟩ = some (.int .i64 Fc) := hSw.1.cell 0; have q1 : y.cell? ⟨w.heap.size + 1, 1, none⟩ = some (.bool Fr) := hSw.1.cell 1; have q2 := hSw.2.1; have q3 := hSw.2.2
        go_simp
        try with_reducible rfl
      try simp only [Act.put, List.setIfInBounds_toArray, List.set_cons_zero, List.set_cons_succ]
      refine wpAnyH_take (i := 20) (oi := { dst := some 91, op := Op.extract (Operand.tmp 71) 0, type := 34, pos := "cpu.go:119", after := #[{ on := 19, ground := Ground.data }], guard := none }) (v := ?_) rfl (by kernel_rfl) (by kernel_rfl) (by kernel_rfl) (fun _ _ _ h => h) (Or.inl ⟨by rfl, ?_⟩) (by assumption) ?_
      rotate_left
      · intro y hSw
        have q0 : y.cell? ⟨w.heap.size + 1, 0, none⟩ = some (.int .i64 Fc) := hSw.1.cell 0; have q1 : y.cell? ⟨w.heap.size + 1, 1, none⟩ = some (.bool Fr) := hSw.1.cell 1; have q2 := hSw.2.1; have q3 := hSw.2.2
        go_simp
        try with_reducible rfl
      try simp only [Act.put, List.setIfInBounds_toArray, List.set_cons_zero, List.set_cons_succ]
      refine wpAnyH_take (i := 21) (oi := { dst := some 92, op := Op.extract (Operand.tmp 71) 1, type := 23, pos := "cpu.go:119", after := #[{ on := 19, ground := Ground.data }, { on := 24, ground := Ground.gcOnly Departure.lateStores }], guard := none }) (v := ?_) rfl (by kernel_rfl) (by kernel_rfl) (by kernel_rfl) (fun _ _ _ h => h) (Or.inl ⟨by rfl, ?_⟩) (by assumption) ?_
      rotate_left
      · intro y hSw
        have q0 : y.cell? ⟨w.heap.size + 1, 0, none⟩ = some (.int .i64 Fc) := hSw.1.cell 0; have q1 : y.cell? ⟨w.heap.size + 1, 1, none⟩ = some (.bool Fr) := hSw.1.cell 1; have q2 := hSw.2.1; have q3 := hSw.2.2
        go_simp
        try with_reducible rfl
      try simp only [Act.put, List.setIfInBounds_toArray, List.set_cons_zero, List.set_cons_succ]
      refine wpAnyH_take (i := 22) (oi := { dst := some 93, op := Op.nilCheck (Operand.tmp 72), type := 0, pos := "cpu.go:119", after := #[{ on := 0, ground := Ground.data }, { on := 0, ground := Ground.phase }, { on := 1, ground := Ground.textOnly Departure.lateStores }, { on := 2, ground := Ground.phase }, { on := 3, ground := Ground.phase }, { on := 4, ground := Ground.phase }, { on := 5, ground := Ground.phase }, { on := 6, ground := Ground.phase }, { on := 7, ground := Ground.phase }, { on := 8, ground := Ground.phase }, { on := 9, ground := Ground.phase }, { on := 10, ground := Ground.phase }, { on := 11, ground := Ground.phase }, { on := 12, ground := Ground.phase }, { on := 13, ground := Ground.phase }, { on := 14, ground := Ground.phase }, { on := 15, ground := Ground.phase }, { on := 16, ground := Ground.phase }, { on := 17, ground := Ground.phase }, { on := 18, ground := Ground.phase }, { on := 19, ground := Ground.phase }, { on := 20, ground := Ground.phase }, { on := 21, ground := Ground.textOnly Departure.lateStores }], guard := none }) (v := ?_) rfl (by kernel_rfl) (by kernel_rfl) (by kernel_rfl) (fun _ _ _ h => h) (Or.inl ⟨by rfl, ?_⟩) (by assumption) ?_
      rotate_left
      · intro y hSw
        have q0 : y.cell? ⟨w.heap.size + 1, 0, none⟩ = some (.int .i64 Fc) := hSw.1.cell 0; have q1 : y.cell? ⟨w.heap.size + 1, 1, none⟩ = some (.bool Fr) := hSw.1.cell 1; have q2 := hSw.2.1; have q3 := hSw.2.2
        go_simp
        try with_reducible rfl
      try simp only [Act.put, List.setIfInBounds_toArray, List.set_cons_zero, List.set_cons_succ]
      refine wpAnyH_take (i := 23) (oi := { dst := some 94, op := Op.fieldAddr 40 (Operand.tmp 93) 7, type := 0, pos := "cpu.go:119", after := #[{ on := 22, ground := Ground.data }, { on := 0, ground := Ground.phase }, { on := 1, ground := Ground.textOnly Departure.lateStores }, { on := 2, ground := Ground.phase }, { on := 3, ground := Ground.phase }, { on := 4, ground := Ground.phase }, { on := 5, ground := Ground.phase }, { on := 6, ground := Ground.phase }, { on := 7, ground := Ground.phase }, { on := 8, ground := Ground.phase }, { on := 9, ground := Ground.phase }, { on := 10, ground := Ground.phase }, { on := 11, ground := Ground.phase }, { on := 12, ground := Ground.phase }, { on := 13, ground := Ground.phase }, { on := 14, ground := Ground.phase }, { on := 15, ground := Ground.phase }, { on := 16, ground := Ground.phase }, { on := 17, ground := Ground.phase }, { on := 18, ground := Ground.phase }, { on := 19, ground := Ground.phase }, { on := 20, ground := Ground.phase }, { on := 21, ground := Ground.textOnly Departure.lateStores }], guard := none }) (v := ?_) rfl (by kernel_rfl) (by kernel_rfl) (by kernel_rfl) (fun _ _ _ h => h) (Or.inl ⟨by rfl, ?_⟩) (by assumption) ?_
      rotate_left
      · intro y hSw
        have q0 : y.cell? ⟨w.heap.size + 1, 0, none⟩ = some (.int .i64 Fc) := hSw.1.cell 0; have q1 : y.cell? ⟨w.heap.size + 1, 1, none⟩ = some (.bool Fr) := hSw.1.cell 1; have q2 := hSw.2.1; have q3 := hSw.2.2
        go_simp
        try with_reducible rfl
      try simp only [Act.put, List.setIfInBounds_toArray, List.set_cons_zero, List.set_cons_succ]
      refine wpAnyH_ready (rs := [24]) (by kernel_rfl) (by simp) ?_
      refine AllReadyH.cons (o := { dst := none, op := Op.store 34 (Operand.tmp 94) (Operand.tmp 91), type := 0, pos := "cpu.go:119", after := #[{ on := 23, ground := Ground.data }, { on := 20, ground := Ground.data }, { on := 18, ground := Ground.chain }, { on := 0, ground := Ground.phase }, { on := 1, ground := Ground.textOnly Departure.lateStores }, { on := 2, ground := Ground.phase }, { on := 3, ground := Ground.phase }, { on := 4, ground := Ground.phase }, { on := 5, ground := Ground.phase }, { on := 6, ground := Ground.phase }, { on := 7, ground := Ground.phase }, { on := 8, ground := Ground.phase }, { on := 9, ground := Ground.phase }, { on := 10, ground := Ground.phase }, { on := 11, ground := Ground.phase }, { on := 12, ground := Ground.phase }, { on := 13, ground := Ground.phase }, { on := 14, ground := Ground.phase }, { on := 15, ground := Ground.phase }, { on := 16, ground := Ground.phase }, { on := 17, ground := Ground.phase }, { on := 18, ground := Ground.phase }, { on := 19, ground := Ground.phase }, { on := 20, ground := Ground.phase }, { on := 21, ground := Ground.textOnly Departure.lateStores }], guard := none }) rfl (fun K hK => ?_) AllReadyH.nil
      have hst := store_part x1 cb 38 (Cp.cellsR (Cp.raiseV N.c.C Fc Fr N.c.pc N.c.dl)) M1.out.bx.1 (by rw [M1.out.bx.2.1]; rfl) rfl
      rw [M1.out.bx.2.1, f7] at hst
      have M2 := hide (M1.out.state (c := { N.c with C := (Cp.raiseV N.c.C Fc Fr N.c.pc N.c.dl) }) (M1.out.bx.set _) (Kept.set _ cb _ (by simp)) hrw.out)
      have K2 := hide (K1.out.trans (Kept.set x1 cb (cellsC { N.c with C := (Cp.raiseV N.c.C Fc Fr N.c.pc N.c.dl) }) (by simp)))
      have hH2 := hHeld.1.far cb (cellsC { N.c with C := (Cp.raiseV N.c.C Fc Fr N.c.pc N.c.dl) }) (by omega)
      go_simp
      refine hK.out _ _ (⟨hH2, M2.out.bx.cell 0, M2.out.bx.cell 2⟩) (fun hHeld => ?_)
      clear hK K
      try simp only [Act.put, List.setIfInBounds_toArray, List.set_cons_zero, List.set_cons_succ]
      clear hst hH2
      generalize x1.setRow cb (cellsC { N.c with C := (Cp.raiseV N.c.C Fc Fr N.c.pc N.c.dl) }) = x2 at *
      obtain ⟨r1, r2, r3, r4, r5⟩ := M2.out.bx.cells
      refine wpAnyH_take (i := 25) (oi := { dst := some 95, op := Op.nilCheck (Operand.tmp 73), type := 0, pos := "cpu.go:119", after := #[{ on := 1, ground := Ground.data }, { on := 0, ground := Ground.phase }, { on := 1, ground := Ground.phase }, { on := 2, ground := Ground.phase }, { on := 3, ground := Ground.phase }, { on := 4, ground := Ground.phase }, { on := 5, ground := Ground.phase }, { on := 6, ground := Ground.phase }, { on := 7, ground := Ground.phase }, { on := 8, ground := Ground.phase }, { on := 9, ground := Ground.phase }, { on := 10, ground := Ground.phase }, { on := 11, ground := Ground.phase }, { on := 12, ground := Ground.phase }, { on := 13, ground := Ground.phase }, { on := 14, ground := Ground.phase }, { on := 15, ground := Ground.phase }, { on := 16, ground := Ground.phase }, { on := 17, ground := Ground.phase }, { on := 18, ground := Ground.phase }, { on := 19, ground := Ground.phase }, { on := 20, ground := Ground.phase }, { on := 21, ground := Ground.phase }, { on := 22, ground := Ground.phase }, { on := 23, ground := Ground.phase }, { on := 24, ground := Ground.phase }], guard := none }) (v := ?_) rfl (by kernel_rfl) (by kernel_rfl) (by kernel_rfl) (fun _ _ _ h => h) (Or.inl ⟨by rfl, ?_⟩) (by assumption) ?_
      rotate_left
      · intro y hSw
        have q0 : y.cell? ⟨w.heap.size + 1, 0, none⟩ = some (.int .i64 Fc) := hSw.1.cell 0; have q1 : y.cell? ⟨w.heap.size + 1, 1, none⟩ = some (.bool Fr) := hSw.1.cell 1; have q2 := hSw.2.1; have q3 := hSw.2.2
        go_simp
        try with_reducible rfl
      try simp only [Act.put, List.setIfInBounds_toArray, List.set_cons_zero, List.set_cons_succ]
      refine wpAnyH_take (i := 26) (oi := { dst := some 96, op := Op.fieldAddr 40 (Operand.tmp 95) 1, type := 0, pos := "cpu.go:119", after := #[{ on := 25, ground := Ground.data }, { on := 0, ground := Ground.phase }, { on := 1, ground := Ground.phase }, { on := 2, ground := Ground.phase }, { on := 3, ground := Ground.phase }, { on := 4, ground := Ground.phase }, { on := 5, ground := Ground.phase }, { on := 6, ground := Ground.phase }, { on := 7, ground := Ground.phase }, { on := 8, ground := Ground.phase }, { on := 9, ground := Ground.phase }, { on := 10, ground := Ground.phase }, { on := 11, ground := Ground.phase }, { on := 12, ground := Ground.phase }, { on := 13, ground := Ground.phase }, { on := 14, ground := Ground.phase }, { on := 15, ground := Ground.phase }, { on := 16, ground := Ground.phase }, { on := 17, ground := Ground.phase }, { on := 18, ground := Ground.phase }, { on := 19, ground := Ground.phase }, { on := 20, ground := Ground.phase }, { on := 21, ground := Ground.phase }, { on := 22, ground := Ground.phase }, { on := 23, ground := Ground.phase }, { on := 24, ground := Ground.phase }], guard := none }) (v := ?_) rfl (by kernel_rfl) (by kernel_rfl) (by kernel_rfl) (fun _ _ _ h => h) (Or.inl ⟨by rfl, ?_⟩) (by assumption) ?_
      rotate_left
      · intro y hSw
        have q0 : y.cell? ⟨w.heap.size + 1, 0, none⟩ = some (.int .i64 Fc) := hSw.1.cell 0; have q1 : y.cell? ⟨w.heap.size + 1, 1, none⟩ = some (.bool Fr) := hSw.1.cell 1; have q2 := hSw.2.1; have q3 := hSw.2.2
        go_simp
        try with_reducible rfl
      try simp only [Act.put, List.setIfInBounds_toArray, List.set_cons_zero, List.set_cons_succ]
      refine wpAnyH_ready (rs := [27]) (by kernel_rfl) (by simp) ?_
      refine AllReadyH.cons (o := { dst := none, op := Op.store 23 (Operand.tmp 96) (Operand.tmp 92), type := 0, pos := "cpu.go:119", after := #[{ on := 26, ground := Ground.data }, { on := 21, ground := Ground.data }, { on := 24, ground := Ground.chain }, { on := 0, ground := Ground.phase }, { on := 1, ground := Ground.phase }, { on := 2, ground := Ground.phase }, { on := 3, ground := Ground.phase }, { on := 4, ground := Ground.phase }, { on := 5, ground := Ground.phase }, { on := 6, ground := Ground.phase }, { on := 7, ground := Ground.phase }, { on := 8, ground := Ground.phase }, { on := 9, ground := Ground.phase }, { on := 10, ground := Ground.phase }, { on := 11, ground := Ground.phase }, { on := 12, ground := Ground.phase }, { on := 13, ground := Ground.phase }, { on := 14, ground := Ground.phase }, { on := 15, ground := Ground.phase }, { on := 16, ground := Ground.phase }, { on := 17, ground := Ground.phase }, { on := 18, ground := Ground.phase }, { on := 19, ground := Ground.phase }, { on := 20, ground := Ground.phase }, { on := 21, ground := Ground.phase }, { on := 22, ground := Ground.phase }, { on := 23, ground := Ground.phase }, { on := 24, ground := Ground.phase }], guard := none }) rfl (fun K hK => ?_) AllReadyH.nil
      have e3 := setCell_row cb x2 1 (.int .u32 (Cp.toV N.c.C Fr)) r1
      rw [r2, s1] at e3
      have M3 := hide (M2.out.state (c := { N.c with C := (Cp.raiseV N.c.C Fc Fr N.c.pc N.c.dl), nx := Cp.toV N.c.C Fr }) (M2.out.bx.set _) (Kept.set _ cb _ (by simp)) hnw.out)
      have K3 := hide (K2.out.trans (Kept.set x2 cb (cellsC { N.c with C := (Cp.raiseV N.c.C Fc Fr N.c.pc N.c.dl), nx := Cp.toV N.c.C Fr }) (by simp)))
      have hH3 := hHeld.1.far cb (cellsC { N.c with C := (Cp.raiseV N.c.C Fc Fr N.c.pc N.c.dl), nx := Cp.toV N.c.C Fr }) (by omega)
      go_simp
      refine hK.out _ _ (⟨hH3, M3.out.bx.cell 0, M3.out.bx.cell 2⟩) (fun hHeld => ?_)
      clear hK K
      try simp only [Act.put, List.setIfInBounds_toArray, List.set_cons_zero, List.set_cons_succ]
      clear e3
      generalize x2.setRow cb (cellsC { N.c with C := (Cp.raiseV N.c.C Fc Fr N.c.pc N.c.dl), nx := Cp.toV N.c.C Fr }) = x3 at *
      clear r1 r2 r3 r4 r5 hH3
      refine wpAnyH_done (by kernel_rfl) ?_ _
      obtain ⟨r1, r2, r3, r4, r5⟩ := M3.out.bx.cells
      have cg := hide (goTo_any M3.out.bx (Cp.toV N.c.C Fr) (to_w _ _))
      go_wp2_with fail
      refine cg.out.mono ?_
      rintro r x4 ⟨rfl, hw⟩
      have M4 : Hid (Mach x4 cb bb p g n cp (stepM n m)) := by rw [hw, hEnd.out]; exact hide (M3.out.state (M3.out.bx.set _) (Kept.set _ cb _ (by simp)) (gone_w hnw.out (to_w _ _)))
      have K4 : Hid (Kept [cb, bb, g] w x4) := by rw [hw]; exact hide (K3.out.trans (Kept.set _ cb _ (by simp)))
      clear hw
      go_wp2
      rw [jump_norm]
      go_end0
      exact ⟨rfl, M4.out, K4.out⟩
    · have hFa := HA.out.aa rfl
      have hbw : Hid (Wc { M.c with C := Cp.badV M.c.C Fa Fp }) := hide ⟨HA.out.mm.wc.pc, HA.out.mm.wc.nx, HA.out.mm.wc.R, HA.out.mm.wc.hi, HA.out.mm.wc.lo, bad_w HA.out.mm.wc.C hFa Fp, HA.out.mm.wc.T⟩
      have cbd := hide fun x => Cp.bad_any HA.out.mm.wc.C hFa Fp x
      obtain ⟨N, hN⟩ : ∃ N : Mc, N = { M with c := { M.c with C := Cp.badV M.c.C Fa Fp } } := ⟨_, rfl⟩
      have hEnd : Hid (stepM n m = { N with c := gone { N.c with C := (Cp.raiseV N.c.C Fc Fr N.c.pc N.c.dl), nx := Cp.toV N.c.C Fr } (Cp.toV N.c.C Fr) }) := by
        subst hN
        exact hide HA.out.ss
      have M1 := hide HA.out.mm.drew
      have K1 := hide HA.out.kk.drew
      have hB0 := hide HA.out.ff.drew
      clear HA
      replace hN := hide hN
      replace hFa := hide hFa
      go_wp2_with fail
      refine wp_region_held_drew (S := fun x => Box x (w.heap.size + 1) (cellsF ⟨Fc, Fr, true, Fa, Fp⟩)) (by kernel_rfl) hB0.out (fun hHeld => ?_)
      clear hf0 hf1 hf2 hB0
      generalize w'.drew = xd at *
      refine wpAnyH_take (i := 0) (oi := { dst := some 59, op := Op.move (Operand.tmp 0), type := 44, pos := "cpu.go:117", after := #[], guard := none }) (v := ?_) rfl (by kernel_rfl) (by kernel_rfl) (by kernel_rfl) (fun _ _ _ h => h) (Or.inl ⟨by rfl, ?_⟩) (by assumption) ?_
      rotate_left
      · intro y hSw
        have q3 : y.cell? ⟨w.heap.size + 1, 3, none⟩ = some (.int .u32 Fa) := hSw.cell 3; have q4 : y.cell? ⟨w.heap.size + 1, 4, none⟩ = some (.bool Fp) := hSw.cell 4
        go_simp
        try with_reducible rfl
      try simp only [Act.put, List.setIfInBounds_toArray, List.set_cons_zero, List.set_cons_succ]
      refine wpAnyH_take (i := 1) (oi := { dst := some 60, op := Op.move (Operand.tmp 0), type := 44, pos := "cpu.go:117", after := #[], guard := none }) (v := ?_) rfl (by kernel_rfl) (by kernel_rfl) (by kernel_rfl) (fun _ _ _ h => h) (Or.inl ⟨by rfl, ?_⟩) (by assumption) ?_
      rotate_left
      · intro y hSw
        have q3 : y.cell? ⟨w.heap.size + 1, 3, none⟩ = some (.int .u32 Fa) := hSw.cell 3; have q4 : y.cell? ⟨w.heap.size + 1, 4, none⟩ = some (.bool Fp) := hSw.cell 4
        go_simp
        try with_reducible rfl
      try simp only [Act.put, List.setIfInBounds_toArray, List.set_cons_zero, List.set_cons_succ]
      refine wpAnyH_take (i := 2) (oi := { dst := some 61, op := Op.nilCheck (Operand.tmp 60), type := 0, pos := "cpu.go:117", after := #[{ on := 1, ground := Ground.data }], guard := none }) (v := ?_) rfl (by kernel_rfl) (by kernel_rfl) (by kernel_rfl) (fun _ _ _ h => h) (Or.inl ⟨by rfl, ?_⟩) (by assumption) ?_
      rotate_left
      · intro y hSw
        have q3 : y.cell? ⟨w.heap.size + 1, 3, none⟩ = some (.int .u32 Fa) := hSw.cell 3; have q4 : y.cell? ⟨w.heap.size + 1, 4, none⟩ = some (.bool Fp) := hSw.cell 4
        go_simp
        try with_reducible rfl
      try simp only [Act.put, List.setIfInBounds_toArray, List.set_cons_zero, List.set_cons_succ]
      refine wpAnyH_take (i := 3) (oi := { dst := some 62, op := Op.fieldAddr 40 (Operand.tmp 61) 7, type := 0, pos := "cpu.go:117", after := #[{ on := 2, ground := Ground.data }], guard := none }) (v := ?_) rfl (by kernel_rfl) (by kernel_rfl) (by kernel_rfl) (fun _ _ _ h => h) (Or.inl ⟨by rfl, ?_⟩) (by assumption) ?_
      rotate_left
      · intro y hSw
        have q3 : y.cell? ⟨w.heap.size + 1, 3, none⟩ = some (.int .u32 Fa) := hSw.cell 3; have q4 : y.cell? ⟨w.heap.size + 1, 4, none⟩ = some (.bool Fp) := hSw.cell 4
        go_simp
        try with_reducible rfl
      try simp only [Act.put, List.setIfInBounds_toArray, List.set_cons_zero, List.set_cons_succ]
      refine wpAnyH_take (i := 5) (oi := { dst := some 64, op := Op.fieldAddr 75 (Operand.tmp 5) 3, type := 0, pos := "cpu.go:117", after := #[], guard := none }) (v := ?_) rfl (by kernel_rfl) (by kernel_rfl) (by kernel_rfl) (fun _ _ _ h => h) (Or.inl ⟨by rfl, ?_⟩) (by assumption) ?_
      rotate_left
      · intro y hSw
        have q3 : y.cell? ⟨w.heap.size + 1, 3, none⟩ = some (.int .u32 Fa) := hSw.cell 3; have q4 : y.cell? ⟨w.heap.size + 1, 4, none⟩ = some (.bool Fp) := hSw.cell 4
        go_simp
        try with_reducible rfl
      try simp only [Act.put, List.setIfInBounds_toArray, List.set_cons_zero, List.set_cons_succ]
      refine wpAnyH_take (i := 6) (oi := { dst := some 65, op := Op.load 23 (Operand.tmp 64), type := 23, pos := "cpu.go:117", after := #[{ on := 5, ground := Ground.data }], guard := none }) (v := ?_) rfl (by kernel_rfl) (by kernel_rfl) (by kernel_rfl) (fun _ _ _ h => h) (Or.inl ⟨by rfl, ?_⟩) (by assumption) ?_
      rotate_left
      · intro y hSw
        have q3 : y.cell? ⟨w.heap.size + 1, 3, none⟩ = some (.int .u32 Fa) := hSw.cell 3; have q4 : y.cell? ⟨w.heap.size + 1, 4, none⟩ = some (.bool Fp) := hSw.cell 4
        go_simp
        try with_reducible rfl
      try simp only [Act.put, List.setIfInBounds_toArray, List.set_cons_zero, List.set_cons_succ]
      refine wpAnyH_take (i := 7) (oi := { dst := some 66, op := Op.fieldAddr 75 (Operand.tmp 5) 4, type := 0, pos := "cpu.go:117", after := #[], guard := none }) (v := ?_) rfl (by kernel_rfl) (by kernel_rfl) (by kernel_rfl) (fun _ _ _ h => h) (Or.inl ⟨by rfl, ?_⟩) (by assumption) ?_
      rotate_left
      · intro y hSw
        have q3 : y.cell? ⟨w.heap.size + 1, 3, none⟩ = some (.int .u32 Fa) := hSw.cell 3; have q4 : y.cell? ⟨w.heap.size + 1, 4, none⟩ = some (.bool Fp) := hSw.cell 4
        go_simp
        try with_reducible rfl
      try simp only [Act.put, List.setIfInBounds_toArray, List.set_cons_zero, List.set_cons_succ]
      refine wpAnyH_take (i := 8) (oi := { dst := some 67, op := Op.load 4 (Operand.tmp 66), type := 4, pos := "cpu.go:117", after := #[{ on := 7, ground := Ground.data }], guard := none }) (v := ?_) rfl (by kernel_rfl) (by kernel_rfl) (by kernel_rfl) (fun _ _ _ h => h) (Or.inl ⟨by rfl, ?_⟩) (by assumption) ?_
      rotate_left
      · intro y hSw
        have q3 : y.cell? ⟨w.heap.size + 1, 3, none⟩ = some (.int .u32 Fa) := hSw.cell 3; have q4 : y.cell? ⟨w.heap.size + 1, 4, none⟩ = some (.bool Fp) := hSw.cell 4
        go_simp
        try with_reducible rfl
      try simp only [Act.put, List.setIfInBounds_toArray, List.set_cons_zero, List.set_cons_succ]
      refine wpAnyH_ready (rs := [4]) (by kernel_rfl) (by simp) ?_
      refine AllReadyH.cons (o := { dst := some 63, op := Op.load 34 (Operand.tmp 62), type := 34, pos := "cpu.go:117", after := #[{ on := 3, ground := Ground.data }], guard := none }) rfl (fun K hK => ?_) AllReadyH.nil
      have ld38 := M1.out.bx.loads (d := Cp.cellsR M.c.C) 38 Cp.N9 rfl rfl
      go_simp
      refine hK.out _ _ (hHeld) (fun hHeld => ?_)
      clear hK K
      try simp only [Act.put, List.setIfInBounds_toArray, List.set_cons_zero, List.set_cons_succ]
      clear ld38
      refine wpAnyH_ready (rs := [9]) (by kernel_rfl) (by simp) ?_
      refine AllReadyH.cons (o := { dst := some 68, op := Op.call { callee := Callee.value (Operand.func 28), args := #[Operand.tmp 63, Operand.tmp 65, Operand.tmp 67], argTypes := #[34, 23, 4] }, type := 34, pos := "cpu.go:117", after := #[{ on := 4, ground := Ground.data }, { on := 6, ground := Ground.data }, { on := 8, ground := Ground.data }], guard := none }) rfl (fun K hK => ?_) AllReadyH.nil
      go_simp
      refine (cbd.out _).mono ?_
      rintro r x1 ⟨rfl, b1⟩
      replace M1 := hide (M1.out.on b1)
      replace K1 := hide (K1.out.trans (Kept.of b1))
      go_wp2_with fail
      refine hK.out _ _ (hHeld.on b1) (fun hHeld => ?_)
      clear hK K
      try simp only [Act.put, List.setIfInBounds_toArray, List.set_cons_zero, List.set_cons_succ]
      clear b1
      refine wpAnyH_take (i := 10) (oi := { dst := some 69, op := Op.nilCheck (Operand.tmp 59), type := 0, pos := "cpu.go:117", after := #[{ on := 0, ground := Ground.data }, { on := 0, ground := Ground.phase }, { on := 1, ground := Ground.phase }, { on := 2, ground := Ground.phase }, { on := 3, ground := Ground.phase }, { on := 4, ground := Ground.phase }, { on := 5, ground := Ground.phase }, { on := 6, ground := Ground.phase }, { on := 7, ground := Ground.phase }, { on := 8, ground := Ground.phase }, { on := 9, ground := Ground.phase }], guard := none }) (v := ?_) rfl (by kernel_rfl) (by kernel_rfl) (by kernel_rfl) (fun _ _ _ h => h) (Or.inl ⟨by rfl, ?_⟩) (by assumption) ?_
      rotate_left
      · intro y hSw
        have q3 : y.cell? ⟨w.heap.size + 1, 3, none⟩ = some (.int .u32 Fa) := hSw.cell 3; have q4 : y.cell? ⟨w.heap.size + 1, 4, none⟩ = some (.bool Fp) := hSw.cell 4
        go_simp
        try with_reducible rfl
      try simp only [Act.put, List.setIfInBounds_toArray, List.set_cons_zero, List.set_cons_succ]
      refine wpAnyH_take (i := 11) (oi := { dst := some 70, op := Op.fieldAddr 40 (Operand.tmp 69) 7, type := 0, pos := "cpu.go:117", after := #[{ on := 10, ground := Ground.data }, { on := 0, ground := Ground.phase }, { on := 1, ground := Ground.phase }, { on := 2, ground := Ground.phase }, { on := 3, ground := Ground.phase }, { on := 4, ground := Ground.phase }, { on := 5, ground := Ground.phase }, { on := 6, ground := Ground.phase }, { on := 7, ground := Ground.phase }, { on := 8, ground := Ground.phase }, { on := 9, ground := Ground.phase }], guard := none }) (v := ?_) rfl (by kernel_rfl) (by kernel_rfl) (by kernel_rfl) (fun _ _ _ h => h) (Or.inl ⟨by rfl, ?_⟩) (by assumption) ?_
      rotate_left
      · intro y hSw
        have q3 : y.cell? ⟨w.heap.size + 1, 3, none⟩ = some (.int .u32 Fa) := hSw.cell 3; have q4 : y.cell? ⟨w.heap.size + 1, 4, none⟩ = some (.bool Fp) := hSw.cell 4
        go_simp
        try with_reducible rfl
      try simp only [Act.put, List.setIfInBounds_toArray, List.set_cons_zero, List.set_cons_succ]
      refine wpAnyH_ready (rs := [12]) (by kernel_rfl) (by simp) ?_
      refine AllReadyH.cons (o := { dst := none, op := Op.store 34 (Operand.tmp 70) (Operand.tmp 68), type := 0, pos := "cpu.go:117", after := #[{ on := 11, ground := Ground.data }, { on := 9, ground := Ground.data }, { on := 9, ground := Ground.chain }, { on := 0, ground := Ground.phase }, { on := 1, ground := Ground.phase }, { on := 2, ground := Ground.phase }, { on := 3, ground := Ground.phase }, { on := 4, ground := Ground.phase }, { on := 5, ground := Ground.phase }, { on := 6, ground := Ground.phase }, { on := 7, ground := Ground.phase }, { on := 8, ground := Ground.phase }, { on := 9, ground := Ground.phase }], guard := none }) rfl (fun K hK => ?_) AllReadyH.nil
      have hst := store_part x1 cb 38 (Cp.cellsR (Cp.badV M.c.C Fa Fp)) M1.out.bx.1 (by rw [M1.out.bx.2.1]; rfl) rfl
      rw [M1.out.bx.2.1, f7] at hst
      have M2 := hide (M1.out.state (c := { M.c with C := Cp.badV M.c.C Fa Fp }) (M1.out.bx.set _) (Kept.set _ cb _ (by simp)) hbw.out)
      have K2 := hide (K1.out.trans (Kept.set x1 cb (cellsC { M.c with C := Cp.badV M.c.C Fa Fp }) (by simp)))
      have hH2 := hHeld.far cb (cellsC { M.c with C := Cp.badV M.c.C Fa Fp }) (by omega)
      go_simp
      refine hK.out _ _ (hH2) (fun hHeld => ?_)
      clear hK K
      try simp only [Act.put, List.setIfInBounds_toArray, List.set_cons_zero, List.set_cons_succ]
      clear hst hH2
      generalize x1.setRow cb (cellsC { M.c with C := Cp.badV M.c.C Fa Fp }) = y2 at *
      refine wpAnyH_done (by kernel_rfl) ?_ _
      have hf0 : y2.cell? ⟨w.heap.size + 1, 0, none⟩ = some (.int .i64 Fc) := hHeld.cell 0
      have hf1 : y2.cell? ⟨w.heap.size + 1, 1, none⟩ = some (.bool Fr) := hHeld.cell 1
      have hB0 := hide hHeld.drew
      clear M1 K1 hHeld cbd hbw
      have M1 : Hid (Mach y2.drew cb bb p g n cp N) := by rw [hN.out]; exact hide M2.out.drew
      have K1 := hide K2.out.drew
      clear M2 K2 hN
      go_wp2_with fail
      refine wp_region_held_drew (S := fun x => Box x (w.heap.size + 1) (cellsF ⟨Fc, Fr, true, Fa, Fp⟩) ∧ x.cell? ⟨cb, 0, none⟩ = some (.int .u32 N.c.pc) ∧ x.cell? ⟨cb, 2, none⟩ = some (.bool N.c.dl)) (by kernel_rfl) ⟨hB0.out, M1.out.bx.cell 0, M1.out.bx.cell 2⟩ (fun hHeld => ?_)
      clear hf0 hf1
      generalize y2.drew = xe at *
      have crs := hide fun x => Cp.raise_any M1.out.wc.C Fc Fr M1.out.wc.pc N.c.dl x
      have hrw : Hid (Wc { N.c with C := (Cp.raiseV N.c.C Fc Fr N.c.pc N.c.dl) }) := hide ⟨M1.out.wc.pc, M1.out.wc.nx, M1.out.wc.R, M1.out.wc.hi, M1.out.wc.lo, Cp.raise_w M1.out.wc.C Fc Fr M1.out.wc.pc N.c.dl, M1.out.wc.T⟩
      have hnw : Hid (Wc { N.c with C := (Cp.raiseV N.c.C Fc Fr N.c.pc N.c.dl), nx := Cp.toV N.c.C Fr }) := hide ⟨M1.out.wc.pc, to_w _ _, M1.out.wc.R, M1.out.wc.hi, M1.out.wc.lo, Cp.raise_w M1.out.wc.C Fc Fr M1.out.wc.pc N.c.dl, M1.out.wc.T⟩
      refine wpAnyH_take (i := 0) (oi := { dst := some 72, op := Op.move (Operand.tmp 0), type := 44, pos := "cpu.go:119", after := #[], guard := none }) (v := ?_) rfl (by kernel_rfl) (by kernel_rfl) (by kernel_rfl) (fun _ _ _ h => h) (Or.inl ⟨by rfl, ?_⟩) (by assumption) ?_
      rotate_left
      · intro y hSw
        have q0 : y.cell? ⟨w.heap.size + 1, 0, none⟩ = some (.int .i64 Fc) := hSw.1.cell 0; have q1 : y.cell? ⟨w.heap.size + 1, 1, none⟩ = some (.bool Fr) := hSw.1.cell 1; have q2 := hSw.2.1; have q3 := hSw.2.2
        go_simp
        try with_reducible rfl
      try simp only [Act.put, List.setIfInBounds_toArray, List.set_cons_zero, List.set_cons_succ]
      refine wpAnyH_take (i := 1) (oi := { dst := some 73, op := Op.move (Operand.tmp 0), type := 44, pos := "cpu.go:119", after := #[{ on := 24, ground := Ground.gcOnly Departure.lateStores }], guard := none }) (v := ?_) rfl (by kernel_rfl) (by kernel_rfl) (by kernel_rfl) (fun _ _ _ h => h) (Or.inl ⟨by rfl, ?_⟩) (by assumption) ?_
      rotate_left
      · intro y hSw
        have q0 : y.cell? ⟨w.heap.size + 1, 0, none⟩ = some (.int .i64 Fc) := hSw.1.cell 0; have q1 : y.cell? ⟨w.heap.size + 1, 1, none⟩ = some (.bool Fr) := hSw.1.cell 1; have q2 := hSw.2.1; have q3 := hSw.2.2
        go_simp
        try with_reducible rfl
      try simp only [Act.put, List.setIfInBounds_toArray, List.set_cons_zero, List.set_cons_succ]
      refine wpAnyH_take (i := 2) (oi := { dst := some 74, op := Op.move (Operand.tmp 0), type := 44, pos := "cpu.go:119", after := #[], guard := none }) (v := ?_) rfl (by kernel_rfl) (by kernel_rfl) (by kernel_rfl) (fun _ _ _ h => h) (Or.inl ⟨by rfl, ?_⟩) (by assumption) ?_
      rotate_left
      · intro y hSw
        have q0 : y.cell? ⟨w.heap.size + 1, 0, none⟩ = some (.int .i64 Fc) := hSw.1.cell 0; have q1 : y.cell? ⟨w.heap.size + 1, 1, none⟩ = some (.bool Fr) := hSw.1.cell 1; have q2 := hSw.2.1; have q3 := hSw.2.2
        go_simp
        try with_reducible rfl
      try simp only [Act.put, List.setIfInBounds_toArray, List.set_cons_zero, List.set_cons_succ]
      refine wpAnyH_take (i := 3) (oi := { dst := some 75, op := Op.nilCheck (Operand.tmp 74), type := 0, pos := "cpu.go:119", after := #[{ on := 2, ground := Ground.data }], guard := none }) (v := ?_) rfl (by kernel_rfl) (by kernel_rfl) (by kernel_rfl) (fun _ _ _ h => h) (Or.inl ⟨by rfl, ?_⟩) (by assumption) ?_
      rotate_left
      · intro y hSw
        have q0 : y.cell? ⟨w.heap.size + 1, 0, none⟩ = some (.int .i64 Fc) := hSw.1.cell 0; have q1 : y.cell? ⟨w.heap.size + 1, 1, none⟩ = some (.bool Fr) := hSw.1.cell 1; have q2 := hSw.2.1; have q3 := hSw.2.2
        go_simp
        try with_reducible rfl
      try simp only [Act.put, List.setIfInBounds_toArray, List.set_cons_zero, List.set_cons_succ]
      refine wpAnyH_take (i := 4) (oi := { dst := some 76, op := Op.fieldAddr 40 (Operand.tmp 75) 7, type := 0, pos := "cpu.go:119", after := #[{ on := 3, ground := Ground.data }], guard := none }) (v := ?_) rfl (by kernel_rfl) (by kernel_rfl) (by kernel_rfl) (fun _ _ _ h => h) (Or.inl ⟨by rfl, ?_⟩) (by assumption) ?_
      rotate_left
      · intro y hSw
        have q0 : y.cell? ⟨w.heap.size + 1, 0, none⟩ = some (.int .i64 Fc) := hSw.1.cell 0; have q1 : y.cell? ⟨w.heap.size + 1, 1, none⟩ = some (.bool Fr) := hSw.1.cell 1; have q2 := hSw.2.1; have q3 := hSw.2.2
        go_simp
        try with_reducible rfl
      try simp only [Act.put, List.setIfInBounds_toArray, List.set_cons_zero, List.set_cons_succ]
      refine wpAnyH_take (i := 6) (oi := { dst := some 78, op := Op.fieldAddr 75 (Operand.tmp 5) 0, type := 0, pos := "cpu.go:119", after := #[], guard := none }) (v := ?_) rfl (by kernel_rfl) (by kernel_rfl) (by kernel_rfl) (fun _ _ _ h => h) (Or.inl ⟨by rfl, ?_⟩) (by assumption) ?_
      rotate_left
      · intro y hSw
        have q0 : y.cell? ⟨w.heap.size + 1, 0, none⟩ = some (.int .i64 Fc) := hSw.1.cell 0; have q1 : y.cell? ⟨w.heap.size + 1, 1, none⟩ = some (.bool Fr) := hSw.1.cell 1; have q2 := hSw.2.1; have q3 := hSw.2.2
        go_simp
        try with_reducible rfl
      try simp only [Act.put, List.setIfInBounds_toArray, List.set_cons_zero, List.set_cons_succ]
      refine wpAnyH_take (i := 7) (oi := { dst := some 79, op := Op.load 3 (Operand.tmp 78), type := 3, pos := "cpu.go:119", after := #[{ on := 6, ground := Ground.data }], guard := none }) (v := ?_) rfl (by kernel_rfl) (by kernel_rfl) (by kernel_rfl) (fun _ _ _ h => h) (Or.inl ⟨by rfl, ?_⟩) (by assumption) ?_
      rotate_left
      · intro y hSw
        have q0 : y.cell? ⟨w.heap.size + 1, 0, none⟩ = some (.int .i64 Fc) := hSw.1.cell 0; have q1 : y.cell? ⟨w.heap.size + 1, 1, none⟩ = some (.bool Fr) := hSw.1.cell 1; have q2 := hSw.2.1; have q3 := hSw.2.2
        go_simp
        try with_reducible rfl
      try simp only [Act.put, List.setIfInBounds_toArray, List.set_cons_zero, List.set_cons_succ]
      refine wpAnyH_take (i := 8) (oi := { dst := some 80, op := Op.fieldAddr 75 (Operand.tmp 5) 1, type := 0, pos := "cpu.go:119", after := #[], guard := none }) (v := ?_) rfl (by kernel_rfl) (by kernel_rfl) (by kernel_rfl) (fun _ _ _ h => h) (Or.inl ⟨by rfl, ?_⟩) (by assumption) ?_
      rotate_left
      · intro y hSw
        have q0 : y.cell? ⟨w.heap.size + 1, 0, none⟩ = some (.int .i64 Fc) := hSw.1.cell 0; have q1 : y.cell? ⟨w.heap.size + 1, 1, none⟩ = some (.bool Fr) := hSw.1.cell 1; have q2 := hSw.2.1; have q3 := hSw.2.2
        go_simp
        try with_reducible rfl
      try simp only [Act.put, List.setIfInBounds_toArray, List.set_cons_zero, List.set_cons_succ]
      refine wpAnyH_take (i := 9) (oi := { dst := some 81, op := Op.load 4 (Operand.tmp 80), type := 4, pos := "cpu.go:119", after := #[{ on := 8, ground := Ground.data }], guard := none }) (v := ?_) rfl (by kernel_rfl) (by kernel_rfl) (by kernel_rfl) (fun _ _ _ h => h) (Or.inl ⟨by rfl, ?_⟩) (by assumption) ?_
      rotate_left
      · intro y hSw
        have q0 : y.cell? ⟨w.heap.size + 1, 0, none⟩ = some (.int .i64 Fc) := hSw.1.cell 0; have q1 : y.cell? ⟨w.heap.size + 1, 1, none⟩ = some (.bool Fr) := hSw.1.cell 1; have q2 := hSw.2.1; have q3 := hSw.2.2
        go_simp
        try with_reducible rfl
      try simp only [Act.put, List.setIfInBounds_toArray, List.set_cons_zero, List.set_cons_succ]
      refine wpAnyH_take (i := 10) (oi := { dst := some 82, op := Op.move (Operand.tmp 0), type := 44, pos := "cpu.go:119", after := #[], guard := none }) (v := ?_) rfl (by kernel_rfl) (by kernel_rfl) (by kernel_rfl) (fun _ _ _ h => h) (Or.inl ⟨by rfl, ?_⟩) (by assumption) ?_
      rotate_left
      · intro y hSw
        have q0 : y.cell? ⟨w.heap.size + 1, 0, none⟩ = some (.int .i64 Fc) := hSw.1.cell 0; have q1 : y.cell? ⟨w.heap.size + 1, 1, none⟩ = some (.bool Fr) := hSw.1.cell 1; have q2 := hSw.2.1; have q3 := hSw.2.2
        go_simp
        try with_reducible rfl
      try simp only [Act.put, List.setIfInBounds_toArray, List.set_cons_zero, List.set_cons_succ]
      refine wpAnyH_take (i := 11) (oi := { dst := some 83, op := Op.nilCheck (Operand.tmp 82), type := 0, pos := "cpu.go:119", after := #[{ on := 10, ground := Ground.data }], guard := none }) (v := ?_) rfl (by kernel_rfl) (by kernel_rfl) (by kernel_rfl) (fun _ _ _ h => h) (Or.inl ⟨by rfl, ?_⟩) (by assumption) ?_
      rotate_left
      · intro y hSw
        have q0 : y.cell? ⟨w.heap.size + 1, 0, none⟩ = some (.int .i64 Fc) := hSw.1.cell 0; have q1 : y.cell? ⟨w.heap.size + 1, 1, none⟩ = some (.bool Fr) := hSw.1.cell 1; have q2 := hSw.2.1; have q3 := hSw.2.2
        go_simp
        try with_reducible rfl
      try simp only [Act.put, List.setIfInBounds_toArray, List.set_cons_zero, List.set_cons_succ]
      refine wpAnyH_take (i := 12) (oi := { dst := some 84, op := Op.fieldAddr 40 (Operand.tmp 83) 0, type := 0, pos := "cpu.go:119", after := #[{ on := 11, ground := Ground.data }], guard := none }) (v := ?_) rfl (by kernel_rfl) (by kernel_rfl) (by kernel_rfl) (fun _ _ _ h => h) (Or.inl ⟨by rfl, ?_⟩) (by assumption) ?_
      rotate_left
      · intro y hSw
        have q0 : y.cell? ⟨w.heap.size + 1, 0, none⟩ = some (.int .i64 Fc) := hSw.1.cell 0; have q1 : y.cell? ⟨w.heap.size + 1, 1, none⟩ = some (.bool Fr) := hSw.1.cell 1; have q2 := hSw.2.1; have q3 := hSw.2.2
        go_simp
        try with_reducible rfl
      try simp only [Act.put, List.setIfInBounds_toArray, List.set_cons_zero, List.set_cons_succ]
      refine wpAnyH_take (i := 13) (oi := { dst := some 85, op := Op.load 23 (Operand.tmp 84), type := 23, pos := "cpu.go:119", after := #[{ on := 12, ground := Ground.data }], guard := none }) (v := ?_) rfl (by kernel_rfl) (by kernel_rfl) (by kernel_rfl) (fun _ _ _ h => h) (Or.inl ⟨by rfl, ?_⟩) (by assumption) ?_
      rotate_left
      · intro y hSw
        have q0 : y.cell? ⟨w.heap.size + 1, 0, none⟩ = some (.int .i64 Fc) := hSw.1.cell 0; have q1 : y.cell? ⟨w.heap.size + 1, 1, none⟩ = some (.bool Fr) := hSw.1.cell 1; have q2 := hSw.2.1; have q3 := hSw.2.2
        go_simp
        try with_reducible rfl
      try simp only [Act.put, List.setIfInBounds_toArray, List.set_cons_zero, List.set_cons_succ]
      refine wpAnyH_take (i := 14) (oi := { dst := some 86, op := Op.move (Operand.tmp 0), type := 44, pos := "cpu.go:119", after := #[], guard := none }) (v := ?_) rfl (by kernel_rfl) (by kernel_rfl) (by kernel_rfl) (fun _ _ _ h => h) (Or.inl ⟨by rfl, ?_⟩) (by assumption) ?_
      rotate_left
      · intro y hSw
        have q0 : y.cell? ⟨w.heap.size + 1, 0, none⟩ = some (.int .i64 Fc) := hSw.1.cell 0; have q1 : y.cell? ⟨w.heap.size + 1, 1, none⟩ = some (.bool Fr) := hSw.1.cell 1; have q2 := hSw.2.1; have q3 := hSw.2.2
        go_simp
        try with_reducible rfl
      try simp only [Act.put, List.setIfInBounds_toArray, List.set_cons_zero, List.set_cons_succ]
      refine wpAnyH_take (i := 15) (oi := { dst := some 87, op := Op.nilCheck (Operand.tmp 86), type := 0, pos := "cpu.go:119", after := #[{ on := 14, ground := Ground.data }], guard := none }) (v := ?_) rfl (by kernel_rfl) (by kernel_rfl) (by kernel_rfl) (fun _ _ _ h => h) (Or.inl ⟨by rfl, ?_⟩) (by assumption) ?_
      rotate_left
      · intro y hSw
        have q0 : y.cell? ⟨w.heap.size + 1, 0, none⟩ = some (.int .i64 Fc) := hSw.1.cell 0; have q1 : y.cell? ⟨w.heap.size + 1, 1, none⟩ = some (.bool Fr) := hSw.1.cell 1; have q2 := hSw.2.1; have q3 := hSw.2.2
        go_simp
        try with_reducible rfl
      try simp only [Act.put, List.setIfInBounds_toArray, List.set_cons_zero, List.set_cons_succ]
      refine wpAnyH_take (i := 16) (oi := { dst := some 88, op := Op.fieldAddr 40 (Operand.tmp 87) 2, type := 0, pos := "cpu.go:119", after := #[{ on := 15, ground := Ground.data }], guard := none }) (v := ?_) rfl (by kernel_rfl) (by kernel_rfl) (by kernel_rfl) (fun _ _ _ h => h) (Or.inl ⟨by rfl, ?_⟩) (by assumption) ?_
      rotate_left
      · intro y hSw
        have q0 : y.cell? ⟨w.heap.size + 1, 0, none⟩ = some (.int .i64 Fc) := hSw.1.cell 0; have q1 : y.cell? ⟨w.heap.size + 1, 1, none⟩ = some (.bool Fr) := hSw.1.cell 1; have q2 := hSw.2.1; have q3 := hSw.2.2
        go_simp
        try with_reducible rfl
      try simp only [Act.put, List.setIfInBounds_toArray, List.set_cons_zero, List.set_cons_succ]
      refine wpAnyH_take (i := 17) (oi := { dst := some 89, op := Op.load 4 (Operand.tmp 88), type := 4, pos := "cpu.go:119", after := #[{ on := 16, ground := Ground.data }], guard := none }) (v := ?_) rfl (by kernel_rfl) (by kernel_rfl) (by kernel_rfl) (fun _ _ _ h => h) (Or.inl ⟨by rfl, ?_⟩) (by assumption) ?_
      rotate_left
      · intro y hSw
        have q0 : y.cell? ⟨w.heap.size + 1, 0, none⟩ = some (.int .i64 Fc) := hSw.1.cell 0; have q1 : y.cell? ⟨w.heap.size + 1, 1, none⟩ = some (.bool Fr) := hSw.1.cell 1; have q2 := hSw.2.1; have q3 := hSw.2.2
        go_simp
        try with_reducible rfl
      try simp only [Act.put, List.setIfInBounds_toArray, List.set_cons_zero, List.set_cons_succ]
      refine wpAnyH_ready (rs := [5]) (by kernel_rfl) (by simp) ?_
      refine AllReadyH.cons (o := { dst := some 77, op := Op.load 34 (Operand.tmp 76), type := 34, pos := "cpu.go:119", after := #[{ on := 4, ground := Ground.data }], guard := none }) rfl (fun K hK => ?_) AllReadyH.nil
      have ld38 := M1.out.bx.loads (d := Cp.cellsR N.c.C) 38 Cp.N9 rfl rfl
      go_simp
      refine hK.out _ _ (hHeld) (fun hHeld => ?_)
      clear hK K
      try simp only [Act.put, List.setIfInBounds_toArray, List.set_cons_zero, List.set_cons_succ]
      clear ld38
      refine wpAnyH_ready (rs := [18]) (by kernel_rfl) (by simp) ?_
      refine AllReadyH.cons (o := { dst := some 90, op := Op.call { callee := Callee.value (Operand.func 29), args := #[Operand.tmp 77, Operand.tmp 79, Operand.tmp 81, Operand.tmp 85, Operand.tmp 89], argTypes := #[34, 3, 4, 23, 4] }, type := 86, pos := "cpu.go:119", after := #[{ on := 5, ground := Ground.data }, { on := 7, ground := Ground.data }, { on := 9, ground := Ground.data }, { on := 13, ground := Ground.data }, { on := 17, ground := Ground.data }], guard := none }) rfl (fun K hK => ?_) AllReadyH.nil
      go_simp
      refine (crs.out _).mono ?_
      rintro r x1 ⟨rfl, b1⟩
      replace M1 := hide (M1.out.on b1)
      replace K1 := hide (K1.out.trans (Kept.of b1))
      go_wp2_with fail
      refine hK.out _ _ (⟨hHeld.1.on b1, M1.out.bx.cell 0, M1.out.bx.cell 2⟩) (fun hHeld => ?_)
      clear hK K
      try simp only [Act.put, List.setIfInBounds_toArray, List.set_cons_zero, List.set_cons_succ]
      clear b1
      refine wpAnyH_take (i := 19) (oi := { dst := some 71, op := Op.move (Operand.tmp 90), type := 86, pos := "cpu.go:119", after := #[{ on := 18, ground := Ground.data }], guard := none }) (v := ?_) rfl (by kernel_rfl) (by kernel_rfl) (by kernel_rfl) (fun _ _ _ h => h) (Or.inl ⟨by rfl, ?_⟩) (by assumption) ?_
      rotate_left
      · intro y hSw
        have q0 : y.cell? ⟨w.heap.size + 1, 0, none⟩ = some (.int .i64 Fc) := hSw.1.cell 0; have q1 : y.cell? ⟨w.heap.size + 1, 1, none⟩ = some (.bool Fr) := hSw.1.cell 1; have q2 := hSw.2.1; have q3 := hSw.2.2
        go_simp
        try with_reducible rfl
      try simp only [Act.put, List.setIfInBounds_toArray, List.set_cons_zero, List.set_cons_succ]
      refine wpAnyH_take (i := 20) (oi := { dst := some 91, op := Op.extract (Operand.tmp 71) 0, type := 34, pos := "cpu.go:119", after := #[{ on := 19, ground := Ground.data }], guard := none }) (v := ?_) rfl (by kernel_rfl) (by kernel_rfl) (by kernel_rfl) (fun _ _ _ h => h) (Or.inl ⟨by rfl, ?_⟩) (by assumption) ?_
      rotate_left
      · intro y hSw
        have q0 : y.cell? ⟨w.heap.size + 1, 0, none⟩ = some (.int .i64 Fc) := hSw.1.cell 0; have q1 : y.cell? ⟨w.heap.size + 1, 1, none⟩ = some (.bool Fr) := hSw.1.cell 1; have q2 := hSw.2.1; have q3 := hSw.2.2
        go_simp
        try with_reducible rfl
      try simp only [Act.put, List.setIfInBounds_toArray, List.set_cons_zero, List.set_cons_succ]
      refine wpAnyH_take (i := 21) (oi := { dst := some 92, op := Op.extract (Operand.tmp 71) 1, type := 23, pos := "cpu.go:119", after := #[{ on := 19, ground := Ground.data }, { on := 24, ground := Ground.gcOnly Departure.lateStores }], guard := none }) (v := ?_) rfl (by kernel_rfl) (by kernel_rfl) (by kernel_rfl) (fun _ _ _ h => h) (Or.inl ⟨by rfl, ?_⟩) (by assumption) ?_
      rotate_left
      · intro y hSw
        have q0 : y.cell? ⟨w.heap.size + 1, 0, none⟩ = some (.int .i64 Fc) := hSw.1.cell 0; have q1 : y.cell? ⟨w.heap.size + 1, 1, none⟩ = some (.bool Fr) := hSw.1.cell 1; have q2 := hSw.2.1; have q3 := hSw.2.2
        go_simp
        try with_reducible rfl
      try simp only [Act.put, List.setIfInBounds_toArray, List.set_cons_zero, List.set_cons_succ]
      refine wpAnyH_take (i := 22) (oi := { dst := some 93, op := Op.nilCheck (Operand.tmp 72), type := 0, pos := "cpu.go:119", after := #[{ on := 0, ground := Ground.data }, { on := 0, ground := Ground.phase }, { on := 1, ground := Ground.textOnly Departure.lateStores }, { on := 2, ground := Ground.phase }, { on := 3, ground := Ground.phase }, { on := 4, ground := Ground.phase }, { on := 5, ground := Ground.phase }, { on := 6, ground := Ground.phase }, { on := 7, ground := Ground.phase }, { on := 8, ground := Ground.phase }, { on := 9, ground := Ground.phase }, { on := 10, ground := Ground.phase }, { on := 11, ground := Ground.phase }, { on := 12, ground := Ground.phase }, { on := 13, ground := Ground.phase }, { on := 14, ground := Ground.phase }, { on := 15, ground := Ground.phase }, { on := 16, ground := Ground.phase }, { on := 17, ground := Ground.phase }, { on := 18, ground := Ground.phase }, { on := 19, ground := Ground.phase }, { on := 20, ground := Ground.phase }, { on := 21, ground := Ground.textOnly Departure.lateStores }], guard := none }) (v := ?_) rfl (by kernel_rfl) (by kernel_rfl) (by kernel_rfl) (fun _ _ _ h => h) (Or.inl ⟨by rfl, ?_⟩) (by assumption) ?_
      rotate_left
      · intro y hSw
        have q0 : y.cell? ⟨w.heap.size + 1, 0, none⟩ = some (.int .i64 Fc) := hSw.1.cell 0; have q1 : y.cell? ⟨w.heap.size + 1, 1, none⟩ = some (.bool Fr) := hSw.1.cell 1; have q2 := hSw.2.1; have q3 := hSw.2.2
        go_simp
        try with_reducible rfl
      try simp only [Act.put, List.setIfInBounds_toArray, List.set_cons_zero, List.set_cons_succ]
      refine wpAnyH_take (i := 23) (oi := { dst := some 94, op := Op.fieldAddr 40 (Operand.tmp 93) 7, type := 0, pos := "cpu.go:119", after := #[{ on := 22, ground := Ground.data }, { on := 0, ground := Ground.phase }, { on := 1, ground := Ground.textOnly Departure.lateStores }, { on := 2, ground := Ground.phase }, { on := 3, ground := Ground.phase }, { on := 4, ground := Ground.phase }, { on := 5, ground := Ground.phase }, { on := 6, ground := Ground.phase }, { on := 7, ground := Ground.phase }, { on := 8, ground := Ground.phase }, { on := 9, ground := Ground.phase }, { on := 10, ground := Ground.phase }, { on := 11, ground := Ground.phase }, { on := 12, ground := Ground.phase }, { on := 13, ground := Ground.phase }, { on := 14, ground := Ground.phase }, { on := 15, ground := Ground.phase }, { on := 16, ground := Ground.phase }, { on := 17, ground := Ground.phase }, { on := 18, ground := Ground.phase }, { on := 19, ground := Ground.phase }, { on := 20, ground := Ground.phase }, { on := 21, ground := Ground.textOnly Departure.lateStores }], guard := none }) (v := ?_) rfl (by kernel_rfl) (by kernel_rfl) (by kernel_rfl) (fun _ _ _ h => h) (Or.inl ⟨by rfl, ?_⟩) (by assumption) ?_
      rotate_left
      · intro y hSw
        have q0 : y.cell? ⟨w.heap.size + 1, 0, none⟩ = some (.int .i64 Fc) := hSw.1.cell 0; have q1 : y.cell? ⟨w.heap.size + 1, 1, none⟩ = some (.bool Fr) := hSw.1.cell 1; have q2 := hSw.2.1; have q3 := hSw.2.2
        go_simp
        try with_reducible rfl
      try simp only [Act.put, List.setIfInBounds_toArray, List.set_cons_zero, List.set_cons_succ]
      refine wpAnyH_ready (rs := [24]) (by kernel_rfl) (by simp) ?_
      refine AllReadyH.cons (o := { dst := none, op := Op.store 34 (Operand.tmp 94) (Operand.tmp 91), type := 0, pos := "cpu.go:119", after := #[{ on := 23, ground := Ground.data }, { on := 20, ground := Ground.data }, { on := 18, ground := Ground.chain }, { on := 0, ground := Ground.phase }, { on := 1, ground := Ground.textOnly Departure.lateStores }, { on := 2, ground := Ground.phase }, { on := 3, ground := Ground.phase }, { on := 4, ground := Ground.phase }, { on := 5, ground := Ground.phase }, { on := 6, ground := Ground.phase }, { on := 7, ground := Ground.phase }, { on := 8, ground := Ground.phase }, { on := 9, ground := Ground.phase }, { on := 10, ground := Ground.phase }, { on := 11, ground := Ground.phase }, { on := 12, ground := Ground.phase }, { on := 13, ground := Ground.phase }, { on := 14, ground := Ground.phase }, { on := 15, ground := Ground.phase }, { on := 16, ground := Ground.phase }, { on := 17, ground := Ground.phase }, { on := 18, ground := Ground.phase }, { on := 19, ground := Ground.phase }, { on := 20, ground := Ground.phase }, { on := 21, ground := Ground.textOnly Departure.lateStores }], guard := none }) rfl (fun K hK => ?_) AllReadyH.nil
      have hst := store_part x1 cb 38 (Cp.cellsR (Cp.raiseV N.c.C Fc Fr N.c.pc N.c.dl)) M1.out.bx.1 (by rw [M1.out.bx.2.1]; rfl) rfl
      rw [M1.out.bx.2.1, f7] at hst
      have M2 := hide (M1.out.state (c := { N.c with C := (Cp.raiseV N.c.C Fc Fr N.c.pc N.c.dl) }) (M1.out.bx.set _) (Kept.set _ cb _ (by simp)) hrw.out)
      have K2 := hide (K1.out.trans (Kept.set x1 cb (cellsC { N.c with C := (Cp.raiseV N.c.C Fc Fr N.c.pc N.c.dl) }) (by simp)))
      have hH2 := hHeld.1.far cb (cellsC { N.c with C := (Cp.raiseV N.c.C Fc Fr N.c.pc N.c.dl) }) (by omega)
      go_simp
      refine hK.out _ _ (⟨hH2, M2.out.bx.cell 0, M2.out.bx.cell 2⟩) (fun hHeld => ?_)
      clear hK K
      try simp only [Act.put, List.setIfInBounds_toArray, List.set_cons_zero, List.set_cons_succ]
      clear hst hH2
      generalize x1.setRow cb (cellsC { N.c with C := (Cp.raiseV N.c.C Fc Fr N.c.pc N.c.dl) }) = x2 at *
      obtain ⟨r1, r2, r3, r4, r5⟩ := M2.out.bx.cells
      refine wpAnyH_take (i := 25) (oi := { dst := some 95, op := Op.nilCheck (Operand.tmp 73), type := 0, pos := "cpu.go:119", after := #[{ on := 1, ground := Ground.data }, { on := 0, ground := Ground.phase }, { on := 1, ground := Ground.phase }, { on := 2, ground := Ground.phase }, { on := 3, ground := Ground.phase }, { on := 4, ground := Ground.phase }, { on := 5, ground := Ground.phase }, { on := 6, ground := Ground.phase }, { on := 7, ground := Ground.phase }, { on := 8, ground := Ground.phase }, { on := 9, ground := Ground.phase }, { on := 10, ground := Ground.phase }, { on := 11, ground := Ground.phase }, { on := 12, ground := Ground.phase }, { on := 13, ground := Ground.phase }, { on := 14, ground := Ground.phase }, { on := 15, ground := Ground.phase }, { on := 16, ground := Ground.phase }, { on := 17, ground := Ground.phase }, { on := 18, ground := Ground.phase }, { on := 19, ground := Ground.phase }, { on := 20, ground := Ground.phase }, { on := 21, ground := Ground.phase }, { on := 22, ground := Ground.phase }, { on := 23, ground := Ground.phase }, { on := 24, ground := Ground.phase }], guard := none }) (v := ?_) rfl (by kernel_rfl) (by kernel_rfl) (by kernel_rfl) (fun _ _ _ h => h) (Or.inl ⟨by rfl, ?_⟩) (by assumption) ?_
      rotate_left
      · intro y hSw
        have q0 : y.cell? ⟨w.heap.size + 1, 0, none⟩ = some (.int .i64 Fc) := hSw.1.cell 0; have q1 : y.cell? ⟨w.heap.size + 1, 1, none⟩ = some (.bool Fr) := hSw.1.cell 1; have q2 := hSw.2.1; have q3 := hSw.2.2
        go_simp
        try with_reducible rfl
      try simp only [Act.put, List.setIfInBounds_toArray, List.set_cons_zero, List.set_cons_succ]
      refine wpAnyH_take (i := 26) (oi := { dst := some 96, op := Op.fieldAddr 40 (Operand.tmp 95) 1, type := 0, pos := "cpu.go:119", after := #[{ on := 25, ground := Ground.data }, { on := 0, ground := Ground.phase }, { on := 1, ground := Ground.phase }, { on := 2, ground := Ground.phase }, { on := 3, ground := Ground.phase }, { on := 4, ground := Ground.phase }, { on := 5, ground := Ground.phase }, { on := 6, ground := Ground.phase }, { on := 7, ground := Ground.phase }, { on := 8, ground := Ground.phase }, { on := 9, ground := Ground.phase }, { on := 10, ground := Ground.phase }, { on := 11, ground := Ground.phase }, { on := 12, ground := Ground.phase }, { on := 13, ground := Ground.phase }, { on := 14, ground := Ground.phase }, { on := 15, ground := Ground.phase }, { on := 16, ground := Ground.phase }, { on := 17, ground := Ground.phase }, { on := 18, ground := Ground.phase }, { on := 19, ground := Ground.phase }, { on := 20, ground := Ground.phase }, { on := 21, ground := Ground.phase }, { on := 22, ground := Ground.phase }, { on := 23, ground := Ground.phase }, { on := 24, ground := Ground.phase }], guard := none }) (v := ?_) rfl (by kernel_rfl) (by kernel_rfl) (by kernel_rfl) (fun _ _ _ h => h) (Or.inl ⟨by rfl, ?_⟩) (by assumption) ?_
      rotate_left
      · intro y hSw
        have q0 : y.cell? ⟨w.heap.size + 1, 0, none⟩ = some (.int .i64 Fc) := hSw.1.cell 0; have q1 : y.cell? ⟨w.heap.size + 1, 1, none⟩ = some (.bool Fr) := hSw.1.cell 1; have q2 := hSw.2.1; have q3 := hSw.2.2
        go_simp
        try with_reducible rfl
      try simp only [Act.put, List.setIfInBounds_toArray, List.set_cons_zero, List.set_cons_succ]
      refine wpAnyH_ready (rs := [27]) (by kernel_rfl) (by simp) ?_
      refine AllReadyH.cons (o := { dst := none, op := Op.store 23 (Operand.tmp 96) (Operand.tmp 92), type := 0, pos := "cpu.go:119", after := #[{ on := 26, ground := Ground.data }, { on := 21, ground := Ground.data }, { on := 24, ground := Ground.chain }, { on := 0, ground := Ground.phase }, { on := 1, ground := Ground.phase }, { on := 2, ground := Ground.phase }, { on := 3, ground := Ground.phase }, { on := 4, ground := Ground.phase }, { on := 5, ground := Ground.phase }, { on := 6, ground := Ground.phase }, { on := 7, ground := Ground.phase }, { on := 8, ground := Ground.phase }, { on := 9, ground := Ground.phase }, { on := 10, ground := Ground.phase }, { on := 11, ground := Ground.phase }, { on := 12, ground := Ground.phase }, { on := 13, ground := Ground.phase }, { on := 14, ground := Ground.phase }, { on := 15, ground := Ground.phase }, { on := 16, ground := Ground.phase }, { on := 17, ground := Ground.phase }, { on := 18, ground := Ground.phase }, { on := 19, ground := Ground.phase }, { on := 20, ground := Ground.phase }, { on := 21, ground := Ground.phase }, { on := 22, ground := Ground.phase }, { on := 23, ground := Ground.phase }, { on := 24, ground := Ground.phase }], guard := none }) rfl (fun K hK => ?_) AllReadyH.nil
      have e3 := setCell_row cb x2 1 (.int .u32 (Cp.toV N.c.C Fr)) r1
      rw [r2, s1] at e3
      have M3 := hide (M2.out.state (c := { N.c with C := (Cp.raiseV N.c.C Fc Fr N.c.pc N.c.dl), nx := Cp.toV N.c.C Fr }) (M2.out.bx.set _) (Kept.set _ cb _ (by simp)) hnw.out)
      have K3 := hide (K2.out.trans (Kept.set x2 cb (cellsC { N.c with C := (Cp.raiseV N.c.C Fc Fr N.c.pc N.c.dl), nx := Cp.toV N.c.C Fr }) (by simp)))
      have hH3 := hHeld.1.far cb (cellsC { N.c with C := (Cp.raiseV N.c.C Fc Fr N.c.pc N.c.dl), nx := Cp.toV N.c.C Fr }) (by omega)
      go_simp
      refine hK.out _ _ (⟨hH3, M3.out.bx.cell 0, M3.out.bx.cell 2⟩) (fun hHeld => ?_)
      clear hK K
      try simp only [Act.put, List.setIfInBounds_toArray, List.set_cons_zero, List.set_cons_succ]
      clear e3
      generalize x2.setRow cb (cellsC { N.c with C := (Cp.raiseV N.c.C Fc Fr N.c.pc N.c.dl), nx := Cp.toV N.c.C Fr }) = x3 at *
      clear r1 r2 r3 r4 r5 hH3
      refine wpAnyH_done (by kernel_rfl) ?_ _
      obtain ⟨r1, r2, r3, r4, r5⟩ := M3.out.bx.cells
      have cg := hide (goTo_any M3.out.bx (Cp.toV N.c.C Fr) (to_w _ _))
      go_wp2_with fail
      refine cg.out.mono ?_
      rintro r x4 ⟨rfl, hw⟩
      have M4 : Hid (Mach x4 cb bb p g n cp (stepM n m)) := by rw [hw, hEnd.out]; exact hide (M3.out.state (M3.out.bx.set _) (Kept.set _ cb _ (by simp)) (gone_w hnw.out (to_w _ _)))
      have K4 : Hid (Kept [cb, bb, g] w x4) := by rw [hw]; exact hide (K3.out.trans (Kept.set _ cb _ (by simp)))
      clear hw
      go_wp2
      rw [jump_norm]
      go_end0
      exact ⟨rfl, M4.out, K4.out⟩
  case refine_1 =>
    have gA := grow w (.cells (cellsI I0) 73)
    have gB := grow (w.alloc (.cells (cellsI I0) 73)) (.cells (cellsF F0) 75)
    have M0 := hide ((h.out.on gA).on gB)
    have L0 := hide ((Box.new w (cellsI I0) 73).on gB)
    have R0 := hide (Box.new (w.alloc (.cells (cellsI I0) 73)) (cellsF F0) 75)
    have K0 := hide (Kept.of (l := [cb, bb, g]) (onto gA (Nat.le_refl _) gB))
    rw [show (w.alloc (.cells (cellsI I0) 73)).heap.size = w.heap.size + 1 by simp] at R0
    obtain ⟨r1, r2, r3, r4, r5⟩ := M0.out.bx.cells
    have s0 : ((w.alloc (.cells (cellsI I0) 73)).alloc (.cells (cellsF F0) 75)).setCell ⟨cb, 3, none⟩ (.int .u32 0) = (w.alloc (.cells (cellsI I0) 73)).alloc (.cells (cellsF F0) 75) := by
      rw [setCell_row cb _ 3 _ r1, r2]
      have e : (cellsC m.c).setIfInBounds 3 (.int .u32 0) = cellsC m.c := by
        have := set_R m.c 0 (by omega) 0
        rw [show 3 + 0 = 3 by rfl] at this
        rw [this]
        congr 1
        have : putR m.c.R 0 0 = m.c.R := by
          funext j
          unfold putR
          split
          next hj => rw [hj]; exact hz.out.symm
          · rfl
        rw [this]
      rw [e]
      exact setRow_self M0.out.bx
    clear gA gB
    have f7 := cWhole.2.2.2.2.2.2.1
    obtain ⟨z1, z2, z3, z4, z5, z6, z7, z8, z9, z10, z11, z12, z13, z14, z15⟩ := cSizes
    have cbt := hide fun x (hx : Bus x bb p g n cp m.v m.B m.D) => tick_any hx
    have cct := hide fun x => Cp.tick_any (l := linesV (tkV n m.v m.B)) M0.out.wc.C (lines_w _) x
    have hct : Hid (Wc { m.c with C := Cp.tickV m.c.C (linesV (tkV n m.v m.B)) }) := hide ⟨M0.out.wc.pc, M0.out.wc.nx, M0.out.wc.R, M0.out.wc.hi, M0.out.wc.lo, tick_w M0.out.wc.C _, M0.out.wc.T⟩
    have hsM : Hid (stepM n m = restM n ⟨{ m.c with C := Cp.tickV m.c.C (linesV (tkV n m.v m.B)) }, tkV n m.v m.B, tkB n m.v m.B, tkD n m.v m.D⟩) := hide rfl
    generalize Cp.tickV m.c.C (linesV (tkV n m.v m.B)) = CT at *
    generalize linesV (tkV n m.v m.B) = LT at *
    generalize tkV n m.v m.B = VT at *
    generalize tkB n m.v m.B = BT at *
    generalize tkD n m.v m.D = DT at *
    go_wp2_with fail
    go_cut [] from 11 (fun x => Hid (Mach x cb bb p g n cp ⟨{ m.c with C := CT }, VT, BT, DT⟩ ∧ Kept [cb, bb, g] w x ∧ Box x w.heap.size (cellsI I0) ∧ Box x (w.heap.size + 1) (cellsF F0)))
    case first =>
      refine wp_region_held_drew (S := fun x => True) (by kernel_rfl) trivial (fun hHeld => ?_)
      have M1 := hide M0.out.drew
      have K1 := hide K0.out.drew
      have L1 := hide L0.out.drew
      have R1 := hide R0.out.drew
      clear s0 r1 r2 r3 r4 r5 M0 K0 L0 R0
      generalize (((w.alloc (.cells (cellsI I0) 73)).alloc (.cells (cellsF F0) 75))).drew = xd at *
      refine wpAnyH_take (i := 0) (oi := { dst := some 11, op := Op.move (Operand.tmp 0), type := 44, pos := "cpu.go:98", after := #[], guard := none }) (v := ?_) rfl (by kernel_rfl) (by kernel_rfl) (by kernel_rfl) (fun _ _ _ h => h) (Or.inl ⟨by rfl, ?_⟩) (by assumption) ?_
      rotate_left
      · intro y hSw
        skip
        go_simp
        try with_reducible rfl
      try simp only [Act.put, List.setIfInBounds_toArray, List.set_cons_zero, List.set_cons_succ]
      refine wpAnyH_take (i := 1) (oi := { dst := some 12, op := Op.move (Operand.tmp 0), type := 44, pos := "cpu.go:98", after := #[], guard := none }) (v := ?_) rfl (by kernel_rfl) (by kernel_rfl) (by kernel_rfl) (fun _ _ _ h => h) (Or.inl ⟨by rfl, ?_⟩) (by assumption) ?_
      rotate_left
      · intro y hSw
        skip
        go_simp
        try with_reducible rfl
      try simp only [Act.put, List.setIfInBounds_toArray, List.set_cons_zero, List.set_cons_succ]
      refine wpAnyH_take (i := 2) (oi := { dst := some 13, op := Op.nilCheck (Operand.tmp 12), type := 0, pos := "cpu.go:98", after := #[{ on := 1, ground := Ground.data }], guard := none }) (v := ?_) rfl (by kernel_rfl) (by kernel_rfl) (by kernel_rfl) (fun _ _ _ h => h) (Or.inl ⟨by rfl, ?_⟩) (by assumption) ?_
      rotate_left
      · intro y hSw
        skip
        go_simp
        try with_reducible rfl
      try simp only [Act.put, List.setIfInBounds_toArray, List.set_cons_zero, List.set_cons_succ]
      refine wpAnyH_take (i := 3) (oi := { dst := some 14, op := Op.fieldAddr 40 (Operand.tmp 13) 7, type := 0, pos := "cpu.go:98", after := #[{ on := 2, ground := Ground.data }], guard := none }) (v := ?_) rfl (by kernel_rfl) (by kernel_rfl) (by kernel_rfl) (fun _ _ _ h => h) (Or.inl ⟨by rfl, ?_⟩) (by assumption) ?_
      rotate_left
      · intro y hSw
        skip
        go_simp
        try with_reducible rfl
      try simp only [Act.put, List.setIfInBounds_toArray, List.set_cons_zero, List.set_cons_succ]
      refine wpAnyH_take (i := 5) (oi := { dst := some 16, op := Op.move (Operand.tmp 1), type := 25, pos := "cpu.go:98", after := #[], guard := none }) (v := ?_) rfl (by kernel_rfl) (by kernel_rfl) (by kernel_rfl) (fun _ _ _ h => h) (Or.inl ⟨by rfl, ?_⟩) (by assumption) ?_
      rotate_left
      · intro y hSw
        skip
        go_simp
        try with_reducible rfl
      try simp only [Act.put, List.setIfInBounds_toArray, List.set_cons_zero, List.set_cons_succ]
      refine wpAnyH_ready (rs := [4, 6]) (by kernel_rfl) (by simp) ?_
      refine AllReadyH.cons (o := { dst := some 15, op := Op.load 34 (Operand.tmp 14), type := 34, pos := "cpu.go:98", after := #[{ on := 3, ground := Ground.data }], guard := none }) rfl (fun K hK => ?_) ?_
      · have ld38 := M1.out.bx.loads (d := Cp.cellsR m.c.C) 38 Cp.N9 rfl rfl
        go_simp
        refine hK.out _ _ (trivial) (fun hHeld => ?_)
        clear hK K
        try simp only [Act.put, List.setIfInBounds_toArray, List.set_cons_zero, List.set_cons_succ]
        clear ld38
        refine wpAnyH_ready (rs := [6]) (by kernel_rfl) (by simp) ?_
        refine AllReadyH.cons (o := { dst := some 17, op := Op.call { callee := Callee.value (Operand.func 22), args := #[Operand.tmp 16], argTypes := #[25] }, type := 23, pos := "cpu.go:98", after := #[{ on := 5, ground := Ground.data }], guard := none }) rfl (fun K hK => ?_) AllReadyH.nil
        go_simp
        refine (cbt.out _ M1.out.bus).mono ?_
        rintro r x1 ⟨rfl, B1, k1⟩
        have M2 := hide (M1.out.turn B1 k1)
        have K2 := hide (K1.out.trans (k1.mono (by simp)))
        have L2 := hide (L1.out.kept k1 (by simp; omega))
        have R2 := hide (R1.out.kept k1 (by simp; omega))
        clear B1 k1
        go_wp2_with fail
        refine hK.out _ _ (trivial) (fun hHeld => ?_)
        clear hK K
        try simp only [Act.put, List.setIfInBounds_toArray, List.set_cons_zero, List.set_cons_succ]
        refine wpAnyH_ready (rs := [7]) (by kernel_rfl) (by simp) ?_
        refine AllReadyH.cons (o := { dst := some 18, op := Op.call { callee := Callee.value (Operand.func 21), args := #[Operand.tmp 15, Operand.tmp 17], argTypes := #[34, 23] }, type := 34, pos := "cpu.go:98", after := #[{ on := 4, ground := Ground.data }, { on := 6, ground := Ground.data }, { on := 6, ground := Ground.chain }], guard := none }) rfl (fun K hK => ?_) AllReadyH.nil
        go_simp
        refine (cct.out _).mono ?_
        rintro r x2 ⟨rfl, b2⟩
        have M3 := hide (M2.out.on b2)
        have K3 := hide (K2.out.trans (Kept.of b2))
        have L3 := hide (L2.out.on b2)
        have R3 := hide (R2.out.on b2)
        clear b2
        go_wp2_with fail
        refine hK.out _ _ (trivial) (fun hHeld => ?_)
        clear hK K
        try simp only [Act.put, List.setIfInBounds_toArray, List.set_cons_zero, List.set_cons_succ]
        refine wpAnyH_take (i := 8) (oi := { dst := some 19, op := Op.nilCheck (Operand.tmp 11), type := 0, pos := "cpu.go:98", after := #[{ on := 0, ground := Ground.data }, { on := 0, ground := Ground.phase }, { on := 1, ground := Ground.phase }, { on := 2, ground := Ground.phase }, { on := 3, ground := Ground.phase }, { on := 4, ground := Ground.phase }, { on := 5, ground := Ground.phase }, { on := 6, ground := Ground.phase }, { on := 7, ground := Ground.phase }], guard := none }) (v := ?_) rfl (by kernel_rfl) (by kernel_rfl) (by kernel_rfl) (fun _ _ _ h => h) (Or.inl ⟨by rfl, ?_⟩) (by assumption) ?_
        rotate_left
        · intro y hSw
          skip
          go_simp
          try with_reducible rfl
        try simp only [Act.put, List.setIfInBounds_toArray, List.set_cons_zero, List.set_cons_succ]
        refine wpAnyH_take (i := 9) (oi := { dst := some 20, op := Op.fieldAddr 40 (Operand.tmp 19) 7, type := 0, pos := "cpu.go:98", after := #[{ on := 8, ground := Ground.data }, { on := 0, ground := Ground.phase }, { on := 1, ground := Ground.phase }, { on := 2, ground := Ground.phase }, { on := 3, ground := Ground.phase }, { on := 4, ground := Ground.phase }, { on := 5, ground := Ground.phase }, { on := 6, ground := Ground.phase }, { on := 7, ground := Ground.phase }], guard := none }) (v := ?_) rfl (by kernel_rfl) (by kernel_rfl) (by kernel_rfl) (fun _ _ _ h => h) (Or.inl ⟨by rfl, ?_⟩) (by assumption) ?_
        rotate_left
        · intro y hSw
          skip
          go_simp
          try with_reducible rfl
        try simp only [Act.put, List.setIfInBounds_toArray, List.set_cons_zero, List.set_cons_succ]
        refine wpAnyH_ready (rs := [10]) (by kernel_rfl) (by simp) ?_
        refine AllReadyH.cons (o := { dst := none, op := Op.store 34 (Operand.tmp 20) (Operand.tmp 18), type := 0, pos := "cpu.go:98", after := #[{ on := 9, ground := Ground.data }, { on := 7, ground := Ground.data }, { on := 7, ground := Ground.chain }, { on := 0, ground := Ground.phase }, { on := 1, ground := Ground.phase }, { on := 2, ground := Ground.phase }, { on := 3, ground := Ground.phase }, { on := 4, ground := Ground.phase }, { on := 5, ground := Ground.phase }, { on := 6, ground := Ground.phase }, { on := 7, ground := Ground.phase }], guard := none }) rfl (fun K hK => ?_) AllReadyH.nil
        have hst := store_part x2 cb 38 (Cp.cellsR CT) M3.out.bx.1 (by rw [M3.out.bx.2.1]; rfl) rfl
        rw [M3.out.bx.2.1, f7] at hst
        have M4 := hide (M3.out.state (c := { m.c with C := CT }) (M3.out.bx.set _) (Kept.set _ cb _ (by simp)) hct.out)
        have K4 := hide (K3.out.trans (Kept.set x2 cb (cellsC { m.c with C := CT }) (by simp)))
        have L4 := hide (L3.out.far cb (cellsC { m.c with C := CT }) (by omega))
        have R4 := hide (R3.out.far cb (cellsC { m.c with C := CT }) (by omega))
        go_simp
        refine hK.out _ _ (trivial) (fun hHeld => ?_)
        clear hK K
        try simp only [Act.put, List.setIfInBounds_toArray, List.set_cons_zero, List.set_cons_succ]
        clear hst
        generalize x2.setRow cb (cellsC { m.c with C := CT }) = x3 at *
        refine wpAnyH_done (by kernel_rfl) ?_ _
        go_wp2_with fail
        go_meet
        case rel => exact hide ⟨M4.out, K4.out, L4.out, R4.out⟩
      refine AllReadyH.cons (o := { dst := some 17, op := Op.call { callee := Callee.value (Operand.func 22), args := #[Operand.tmp 16], argTypes := #[25] }, type := 23, pos := "cpu.go:98", after := #[{ on := 5, ground := Ground.data }], guard := none }) rfl (fun K hK => ?_) AllReadyH.nil
      go_simp
      refine (cbt.out _ M1.out.bus).mono ?_
      rintro r x1 ⟨rfl, B1, k1⟩
      have M2 := hide (M1.out.turn B1 k1)
      have K2 := hide (K1.out.trans (k1.mono (by simp)))
      have L2 := hide (L1.out.kept k1 (by simp; omega))
      have R2 := hide (R1.out.kept k1 (by simp; omega))
      clear B1 k1
      go_wp2_with fail
      refine hK.out _ _ (trivial) (fun hHeld => ?_)
      clear hK K
      try simp only [Act.put, List.setIfInBounds_toArray, List.set_cons_zero, List.set_cons_succ]
      refine wpAnyH_ready (rs := [4]) (by kernel_rfl) (by simp) ?_
      refine AllReadyH.cons (o := { dst := some 15, op := Op.load 34 (Operand.tmp 14), type := 34, pos := "cpu.go:98", after := #[{ on := 3, ground := Ground.data }], guard := none }) rfl (fun K hK => ?_) AllReadyH.nil
      have ld38 := M2.out.bx.loads (d := Cp.cellsR m.c.C) 38 Cp.N9 rfl rfl
      go_simp
      refine hK.out _ _ (trivial) (fun hHeld => ?_)
      clear hK K
      try simp only [Act.put, List.setIfInBounds_toArray, List.set_cons_zero, List.set_cons_succ]
      clear ld38
      refine wpAnyH_ready (rs := [7]) (by kernel_rfl) (by simp) ?_
      refine AllReadyH.cons (o := { dst := some 18, op := Op.call { callee := Callee.value (Operand.func 21), args := #[Operand.tmp 15, Operand.tmp 17], argTypes := #[34, 23] }, type := 34, pos := "cpu.go:98", after := #[{ on := 4, ground := Ground.data }, { on := 6, ground := Ground.data }, { on := 6, ground := Ground.chain }], guard := none }) rfl (fun K hK => ?_) AllReadyH.nil
      go_simp
      refine (cct.out _).mono ?_
      rintro r x2 ⟨rfl, b2⟩
      have M3 := hide (M2.out.on b2)
      have K3 := hide (K2.out.trans (Kept.of b2))
      have L3 := hide (L2.out.on b2)
      have R3 := hide (R2.out.on b2)
      clear b2
      go_wp2_with fail
      refine hK.out _ _ (trivial) (fun hHeld => ?_)
      clear hK K
      try simp only [Act.put, List.setIfInBounds_toArray, List.set_cons_zero, List.set_cons_succ]
      refine wpAnyH_take (i := 8) (oi := { dst := some 19, op := Op.nilCheck (Operand.tmp 11), type := 0, pos := "cpu.go:98", after := #[{ on := 0, ground := Ground.data }, { on := 0, ground := Ground.phase }, { on := 1, ground := Ground.phase }, { on := 2, ground := Ground.phase }, { on := 3, ground := Ground.phase }, { on := 4, ground := Ground.phase }, { on := 5, ground := Ground.phase }, { on := 6, ground := Ground.phase }, { on := 7, ground := Ground.phase }], guard := none }) (v := ?_) rfl (by kernel_rfl) (by kernel_rfl) (by kernel_rfl) (fun _ _ _ h => h) (Or.inl ⟨by rfl, ?_⟩) (by assumption) ?_
      rotate_left
      · intro y hSw
        skip
        go_simp
        try with_reducible rfl
      try simp only [Act.put, List.setIfInBounds_toArray, List.set_cons_zero, List.set_cons_succ]
      refine wpAnyH_take (i := 9) (oi := { dst := some 20, op := Op.fieldAddr 40 (Operand.tmp 19) 7, type := 0, pos := "cpu.go:98", after := #[{ on := 8, ground := Ground.data }, { on := 0, ground := Ground.phase }, { on := 1, ground := Ground.phase }, { on := 2, ground := Ground.phase }, { on := 3, ground := Ground.phase }, { on := 4, ground := Ground.phase }, { on := 5, ground := Ground.phase }, { on := 6, ground := Ground.phase }, { on := 7, ground := Ground.phase }], guard := none }) (v := ?_) rfl (by kernel_rfl) (by kernel_rfl) (by kernel_rfl) (fun _ _ _ h => h) (Or.inl ⟨by rfl, ?_⟩) (by assumption) ?_
      rotate_left
      · intro y hSw
        skip
        go_simp
        try with_reducible rfl
      try simp only [Act.put, List.setIfInBounds_toArray, List.set_cons_zero, List.set_cons_succ]
      refine wpAnyH_ready (rs := [10]) (by kernel_rfl) (by simp) ?_
      refine AllReadyH.cons (o := { dst := none, op := Op.store 34 (Operand.tmp 20) (Operand.tmp 18), type := 0, pos := "cpu.go:98", after := #[{ on := 9, ground := Ground.data }, { on := 7, ground := Ground.data }, { on := 7, ground := Ground.chain }, { on := 0, ground := Ground.phase }, { on := 1, ground := Ground.phase }, { on := 2, ground := Ground.phase }, { on := 3, ground := Ground.phase }, { on := 4, ground := Ground.phase }, { on := 5, ground := Ground.phase }, { on := 6, ground := Ground.phase }, { on := 7, ground := Ground.phase }], guard := none }) rfl (fun K hK => ?_) AllReadyH.nil
      have hst := store_part x2 cb 38 (Cp.cellsR CT) M3.out.bx.1 (by rw [M3.out.bx.2.1]; rfl) rfl
      rw [M3.out.bx.2.1, f7] at hst
      have M4 := hide (M3.out.state (c := { m.c with C := CT }) (M3.out.bx.set _) (Kept.set _ cb _ (by simp)) hct.out)
      have K4 := hide (K3.out.trans (Kept.set x2 cb (cellsC { m.c with C := CT }) (by simp)))
      have L4 := hide (L3.out.far cb (cellsC { m.c with C := CT }) (by omega))
      have R4 := hide (R3.out.far cb (cellsC { m.c with C := CT }) (by omega))
      go_simp
      refine hK.out _ _ (trivial) (fun hHeld => ?_)
      clear hK K
      try simp only [Act.put, List.setIfInBounds_toArray, List.set_cons_zero, List.set_cons_succ]
      clear hst
      generalize x2.setRow cb (cellsC { m.c with C := CT }) = x3 at *
      refine wpAnyH_done (by kernel_rfl) ?_ _
      go_wp2_with fail
      go_meet
      case rel => exact hide ⟨M4.out, K4.out, L4.out, R4.out⟩
    case rest =>
      clear s0 r1 r2 r3 r4 r5 M0 K0 L0 R0 cbt cct
      obtain ⟨M1, K1, L1, R1⟩ := hcut.out
      clear hcut
      replace M1 := hide M1
      replace K1 := hide K1
      replace L1 := hide L1
      replace R1 := hide R1
      obtain ⟨MT, hMT⟩ : ∃ MT : Mc, MT = ⟨{ m.c with C := CT }, VT, BT, DT⟩ := ⟨_, rfl⟩
      rw [← hMT] at M1 hsM
      have ld38 := M1.out.bx.loads (d := Cp.cellsR MT.c.C) 38 Cp.N9 rfl rfl
      have cpd := hide fun x => Cp.pend_any M1.out.wc.C x
      clear hMT hct
      go_wp2_with fail
      refine (cpd.out _).mono ?_
      rintro r w1 ⟨rfl, b1⟩
      have M2 := hide (M1.out.on b1)
      have K2 := hide (K1.out.trans (Kept.of b1))
      have L2 := hide (L1.out.on b1)
      have R2 := hide (R1.out.on b1)
      clear b1 M1 K1 L1 R1 ld38 cpd
      cases hpd : Cp.pendV MT.c.C with
      | true =>
        have hend : stepM n m = { MT with c := faultC MT.c (ftC 0) } := by rw [hsM.out]; unfold restM; rw [if_pos hpd]
        have hst := fun f => (R2.out.last0 f).1
        replace hend := hide hend
        obtain ⟨zs1, zs2⟩ := ftMore
        go_wp2
        go_step3
        exact ⟨rfl, frame_of rfl rfl rfl rfl rfl, MT, ftC 0, hide ⟨M2.out.far _ _ (by omega) (by omega) (by omega) (by omega) (by omega), R2.out.set _, K2.out.late _ _ (by omega), hend.out, fun h => by cases h⟩⟩
      | false =>
        have hr1 : stepM n m = if (ftV n MT.c MT.B).2.2 = false then { MT with c := faultC MT.c (ftV n MT.c MT.B).2.1 } else if goesV (ftV n MT.c MT.B).1.o = true then { MT with c := brV MT.c (ftV n MT.c MT.B).1 }
            else if (doM n MT (ftV n MT.c MT.B).1).k = true then { (doM n MT (ftV n MT.c MT.B).1).m with c := gone (doM n MT (ftV n MT.c MT.B).1).m.c (doM n MT (ftV n MT.c MT.B).1).m.c.nx } else { MT with c := faultC MT.c (doM n MT (ftV n MT.c MT.B).1).f } := by
          rw [hsM.out]; unfold restM; rw [if_neg (by rw [hpd]; simp)]
        have hok := fun hk => ftV_ok (n := n) (c := MT.c) M2.out.bus.m.lt hk
        have had := ftV_ad (n := n) M2.out.wc MT.B
        have cf := hide (fetch_any M2.out)
        generalize ftV n MT.c MT.B = V at *
        obtain ⟨VI, VF, VK⟩ := V
        dsimp only at hr1 hok had
        replace hr1 := hide hr1
        replace hok := hide hok
        replace had := hide had
        clear hsM hpd
        go_wp2_with fail
        refine cf.out.mono ?_
        rintro r w2 ⟨rfl, b2⟩
        have M3 := hide (M2.out.on b2)
        have K3 := hide (K2.out.trans (Kept.of b2))
        have L3 := hide (L2.out.on b2)
        have R3 := hide (R2.out.on b2)
        clear b2 M2 K2 L2 R2 cf
        have nn := fun J q => ends (n := 0) (w := w2) L3.out R3.out (by omega) (Below.refl 0 w2) (Nat.zero_le _) (Nat.zero_le _) J q
        have n1 := fun J => (nn J F0).1
        have n2 := fun J q => (nn J q).2.1
        clear nn
        have M4 := hide ((M3.out.far w.heap.size (cellsI VI) (by omega) (by omega) (by omega) (by omega) (by omega)).far (w.heap.size + 1) (cellsF VF) (by omega) (by omega) (by omega) (by omega) (by omega))
        have K4 := hide ((K3.out.late w.heap.size (cellsI VI) (by omega)).late (w.heap.size + 1) (cellsF VF) (by omega))
        have L4 := hide ((L3.out.set (cellsI VI)).far (w.heap.size + 1) (cellsF VF) (by omega))
        have R4 := hide ((R3.out.far w.heap.size (cellsI VI) (by omega)).set (cellsF VF))
        cases VK
        · clear hok
          go_wp2
          go_step3
          exact ⟨rfl, frame_of rfl rfl rfl rfl rfl, MT, VF, hide ⟨M4.out, R4.out, K4.out, by rw [hr1.out]; rfl, had.out⟩⟩
        · obtain ⟨op, s, t, d, a, i, e, hop, hs, ht, hd, ha, rfl⟩ := hok.out rfl
          clear hok had
          have hr2 : Hid (stepM n m = if goesV ((op : Nat) : Int) = true then { MT with c := brV MT.c ⟨op, s, t, d, a, i, e⟩ }
              else if (doM n MT ⟨op, s, t, d, a, i, e⟩).k = true then { (doM n MT ⟨op, s, t, d, a, i, e⟩).m with c := gone (doM n MT ⟨op, s, t, d, a, i, e⟩).m.c (doM n MT ⟨op, s, t, d, a, i, e⟩).m.c.nx } else { MT with c := faultC MT.c (doM n MT ⟨op, s, t, d, a, i, e⟩).f }) := by
            refine hide ?_
            rw [hr1.out, if_neg (by simp)]
          clear hr1
          have hcell : ((w2.setRow w.heap.size (cellsI ⟨op, s, t, d, a, i, e⟩)).setRow (w.heap.size + 1) (cellsF VF)).cell? ⟨w.heap.size, 0, none⟩ = some (.int .i64 ((op : Nat) : Int)) := L4.out.cell 0
          have ldI := L4.out.loads (d := cellsI ⟨op, s, t, d, a, i, e⟩) 0 N6 rfl rfl
          have cbr := hide (De.branch_any ((op : Nat) : Int) _ M4.out.tb)
          rw [show De.goes (De.Dec.fm (De.idx ((op : Nat) : Int))) = goesV ((op : Nat) : Int) from rfl] at cbr
          go_wp2_with fail
          generalize (w2.setRow w.heap.size (cellsI ⟨op, s, t, d, a, i, e⟩)).setRow (w.heap.size + 1) (cellsF VF) = y2 at *
          refine cbr.out.mono ?_
          rintro r w3 ⟨rfl, b3⟩
          have M5 := hide (M4.out.on b3)
          have K5 := hide (K4.out.trans (Kept.of b3))
          have L5 := hide (L4.out.on b3)
          have R5 := hide (R4.out.on b3)
          clear b3 M3 K3 L3 R3 M4 K4 L4 R4 n1 n2 hcell ldI cbr
          have ldI := L5.out.loads (d := cellsI ⟨op, s, t, d, a, i, e⟩) 0 N6 rfl rfl
          cases hg : goesV ((op : Nat) : Int) with
          | true =>
            have hbr : (((op : Nat) : Int) = 37 ∨ ((op : Nat) : Int) = 38 ∨ ((op : Nat) : Int) = 40 ∨ ((op : Nat) : Int) = 7) ∨ (((op : Nat) : Int) = 35 ∨ ((op : Nat) : Int) = 36) ∨ (((op : Nat) : Int) = 39 ∨ ((op : Nat) : Int) = 6) ∨ (((op : Nat) : Int) = 41 ∨ ((op : Nat) : Int) = 42 ∨ ((op : Nat) : Int) = 43 ∨ ((op : Nat) : Int) = 44) := by
              rw [goes_is op hop] at hg
              have : op = 6 ∨ op = 7 ∨ (35 ≤ op ∧ op ≤ 44) := by simpa using hg
              omega
            have cb1 := hide (branch_any M5.out.bx M5.out.wc ((op : Nat) : Int) s t d a i e hs ht hd hbr)
            have hend : Hid (stepM n m = { MT with c := brV MT.c ⟨op, s, t, d, a, i, e⟩ }) := by rw [hr2.out, if_pos hg]; exact hide rfl
            clear hr2 hbr
            go_wp2_with fail
            refine cb1.out.mono ?_
            rintro r w4 ⟨rfl, B4, k4⟩
            have M6 : Hid (Mach w4 cb bb p g n cp (stepM n m)) := by rw [hend.out]; exact hide (M5.out.state B4 k4 (brV_w M5.out.wc _))
            have K6 := hide (K5.out.trans (k4.mono (by simp)))
            clear B4 k4 cb1 hend
            go_wp2
            rw [jump_back]
            exact bodyPost_ret (v := .tuple #[]) (by simp [results, Tryz.results10, go_sem]) rfl ⟨rfl, M6.out, K6.out⟩
          | false =>
            have cdo := hide (do_any M5.out op s t d a i e hop hs ht hd ha hg)
            have hbd := doM_bad n MT ⟨op, s, t, d, a, i, e⟩
            have hda := doM_ad n MT ⟨op, s, t, d, a, i, e⟩
            rw [hg] at hr2
            replace hr2 : Hid (stepM n m = if (doM n MT ⟨op, s, t, d, a, i, e⟩).k = true then { (doM n MT ⟨op, s, t, d, a, i, e⟩).m with c := gone (doM n MT ⟨op, s, t, d, a, i, e⟩).m.c (doM n MT ⟨op, s, t, d, a, i, e⟩).m.c.nx } else { MT with c := faultC MT.c (doM n MT ⟨op, s, t, d, a, i, e⟩).f }) := hide (by rw [hr2.out]; rfl)
            generalize doM n MT ⟨op, s, t, d, a, i, e⟩ = O at *
            obtain ⟨OM, OF, OK⟩ := O
            dsimp only at hbd hda
            replace hbd := hide hbd
            replace hda := hide hda
            go_wp2_with fail
            refine cdo.out.mono ?_
            rintro r w4 ⟨rfl, M6, k6⟩
            replace M6 := hide M6
            have K6 := hide (K5.out.trans k6)
            have R6 := hide (R5.out.kept k6 (by simp; omega))
            clear k6 cdo M5 K5 R5 L5 ldI
            have hst := fun f => (R6.out.last0 f).1
            cases OK
            · obtain rfl := hbd.out rfl
              go_wp2
              go_step3
              exact ⟨rfl, frame_of rfl rfl rfl rfl rfl, OM, OF, hide ⟨M6.out.far _ _ (by omega) (by omega) (by omega) (by omega) (by omega), R6.out.set _, K6.out.late _ _ (by omega), by rw [hr2.out]; rfl, hda.out⟩⟩
            · have M7 := hide (M6.out.far (w.heap.size + 1) (cellsF OF) (by omega) (by omega) (by omega) (by omega) (by omega))
              have K7 := hide (K6.out.late (w.heap.size + 1) (cellsF OF) (by omega))
              have e1 : (w4.setRow (w.heap.size + 1) (cellsF OF)).cell? ⟨cb, 1, none⟩ = some (.int .u32 OM.c.nx) := M7.out.bx.cell 1
              have cg := hide (goTo_any M7.out.bx OM.c.nx M7.out.wc.nx)
              have M8 := hide (M7.out.state (M7.out.bx.set _) (Kept.set _ cb _ (by simp)) (gone_w M7.out.wc M7.out.wc.nx))
              have K8 := hide (K7.out.trans (Kept.set _ cb (cellsC (gone OM.c OM.c.nx)) (by simp)))
              have hend : Hid (stepM n m = { OM with c := gone OM.c OM.c.nx }) := hide (by rw [hr2.out]; rfl)
              go_wp2_with fail
              refine cg.out.mono ?_
              rintro r w5 ⟨rfl, hw⟩
              have M9 : Hid (Mach w5 cb bb p g n cp (stepM n m)) := by rw [hw, hend.out]; exact M8
              have K9 : Hid (Kept [cb, bb, g] w w5) := by rw [hw]; exact K8
              clear hw M6 M7 M8 K6 K7 K8 cg R6 hst e1
              go_wp2
              rw [jump_back]
              exact bodyPost_ret (v := .tuple #[]) (by simp [results, Tryz.results10, go_sem]) rfl ⟨rfl, M9.out, K9.out⟩

end Go.Proofs.YtmegghgjllbamaaGreatDoor
