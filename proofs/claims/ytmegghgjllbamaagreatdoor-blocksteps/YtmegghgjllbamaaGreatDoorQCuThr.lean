/- Layer 13: contract of the program's branch. -/
import Derived.Test.YtmegghgjllbamaaGreatDoorQCuTwo
import Derived.RegionTactic
namespace Go.Proofs.YtmegghgjllbamaaGreatDoor
open Go.RowKit
set_option linter.unusedVariables false
set_option maxRecDepth 100000
set_option linter.unusedSimpArgs false

theorem linkV_keeps (c : Cs) (I : Ins) : (linkV c I).nx = c.nx ∧ (linkV c I).pc = c.pc ∧ (linkV c I).dl = c.dl := by
  unfold linkV putC
  repeat' split
  all_goals exact ⟨rfl, rfl, rfl⟩

theorem putC_w {c : Cs} (h : Wc c) (k : Nat) {v : Int} (hv : Cp.W32 v) : Wc (putC c k v) := by
  unfold putC putR
  split
  · exact h
  · refine ⟨h.pc, h.nx, fun j => ?_, h.hi, h.lo, h.C, h.T⟩
    show Cp.W32 (if j = k then v else c.R j)
    split
    · exact hv
    · exact h.R j

theorem mod_w (n : Int) : Cp.W32 (n % 4294967296) := by constructor <;> omega

theorem linkV_w {c : Cs} (h : Wc c) (I : Ins) : Wc (linkV c I) := by
  unfold linkV
  repeat' split
  · exact putC_w h _ (mod_w _)
  · exact putC_w h _ (mod_w _)
  · exact h

set_option maxHeartbeats 2000000 in
theorem branch_any {w : World} {b : Nat} {c : Cs} (h : Box w b (cellsC c)) (hc : Wc c) (o : Int) (s t d a : Nat) (i e : Int) (hs : s < 32) (ht : t < 32) (hd : d < 32)
    (ho : (o = 37 ∨ o = 38 ∨ o = 40 ∨ o = 7) ∨ (o = 35 ∨ o = 36) ∨ (o = 39 ∨ o = 6) ∨ (o = 41 ∨ o = 42 ∨ o = 43 ∨ o = 44)) :
    Calls Tryz.prog 26 #[.pointer (some ⟨b, 0, none⟩), .agg #[.int .i64 o, .int .i64 (s : Int), .int .i64 (t : Int), .int .i64 (d : Int), .int .i64 (a : Int), .int .i64 i]] w fun r w' =>
      r = .returned (.tuple #[]) ∧ Box w' b (cellsC (brV c ⟨o, s, t, d, a, i, e⟩)) ∧ Kept [b] w w' := by
  obtain ⟨p0, p1, p2, p3, p4, p5, p6, p7, p8, p9⟩ := cParts
  obtain ⟨s0, s1, s2, s3, s4, s5, s6, s7, s8, s9⟩ := cSets
  obtain ⟨k1, k2, k3, k4, k5, k6⟩ := stRules b
  have g := h.grown (.cells #[.int .i64 o, .int .i64 (s : Int), .int .i64 (t : Int), .int .i64 (d : Int), .int .i64 (a : Int), .int .i64 i] 73)
  have kg := hide (Kept.of (l := [b]) (grow w (.cells #[.int .i64 o, .int .i64 (s : Int), .int .i64 (t : Int), .int .i64 (d : Int), .int .i64 (a : Int), .int .i64 i] 73)))
  have ct := hide (target_any g hc o s t d a i e hs ht hd ho)
  have hn : Cp.W32 (linkV c ⟨o, s, t, d, a, i, e⟩).nx := by rw [(linkV_keeps c ⟨o, s, t, d, a, i, e⟩).1]; exact hc.nx
  have hV : brV c ⟨o, s, t, d, a, i, e⟩ = { linkV c ⟨o, s, t, d, a, i, e⟩ with pc := (linkV c ⟨o, s, t, d, a, i, e⟩).nx, nx := if takenV c ⟨o, s, t, d, a, i, e⟩ then toI c ⟨o, s, t, d, a, i, e⟩ else ((linkV c ⟨o, s, t, d, a, i, e⟩).nx + 4) % 4294967296, dl := true } := by
    unfold brV; rw [(linkV_keeps c ⟨o, s, t, d, a, i, e⟩).1]
  rw [hV]
  clear hV
  generalize linkV c ⟨o, s, t, d, a, i, e⟩ = C at *
  generalize toI c ⟨o, s, t, d, a, i, e⟩ = P at *
  generalize takenV c ⟨o, s, t, d, a, i, e⟩ = Y at *
  replace h := hide h
  replace hc := hide hc
  replace hn := hide hn
  clear g ho
  go_enter Tryz.func26, Tryz.ntmps26
  go_wp2_with fail
  refine ct.out.mono ?_
  rintro r w1 ⟨rfl, B1, K1⟩
  have K2 := hide (kg.out.trans K1)
  have cg := hide (goTo_any B1 C.nx hn.out)
  have B2 := hide (B1.set (cellsC (gone C C.nx)))
  obtain ⟨r1, r2, r3, r4, r5⟩ := B1.cells
  clear K1 kg ct B1
  go_wp2_with fail
  refine cg.out.mono ?_
  rintro r w2 ⟨rfl, hw⟩
  have B3 : Box w2 b (cellsC (gone C C.nx)) := by rw [hw]; exact B2.out
  have K3 : Hid (Kept [b] w w2) := by rw [hw]; exact hide (K2.out.row _)
  clear hw r1 r2 r3 r4 r5 B2 K2 cg
  obtain ⟨r1, r2, r3, r4, r5⟩ := B3.cells
  replace B3 := hide B3
  cases Y
  · go_wp2
    go_end0
    exact ⟨rfl, B3.out.set _, K3.out.row _⟩
  · go_wp2
    go_end0
    exact ⟨rfl, B3.out.set _, K3.out.row _⟩

end Go.Proofs.YtmegghgjllbamaaGreatDoor

/- Layer 13: contracts of the program's moveHalf and makeHalves. -/
namespace Go.Proofs.YtmegghgjllbamaaGreatDoor
open Go.RowKit
set_option linter.unusedVariables false
set_option maxRecDepth 100000
set_option linter.unusedSimpArgs false

/-- A store into the state, the box of an argument made ahead of it. -/
theorem late {w : World} {b : Nat} {c : Array Value} (h : Box w b c) (C : Array Value) (o : Obj) : Box ((w.setRow b C).alloc o) b C ∧ Kept [b] w ((w.setRow b C).alloc o) :=
  ⟨(h.set C).on (grow _ _), ((Kept.refl [b] w).row C).trans (Kept.of (grow _ _))⟩

set_option maxHeartbeats 2000000 in
theorem moveHalf_any {w : World} {b : Nat} {c : Cs} (h : Box w b (cellsC c)) (o : Int) (s t d a : Nat) (i e : Int) (hs : s < 32) (ht : t < 32) (hd : d < 32) (ho : o = 12 ∨ o = 14 ∨ o = 13 ∨ o = 15) :
    Calls Tryz.prog 58 #[.pointer (some ⟨b, 0, none⟩), .agg #[.int .i64 o, .int .i64 (s : Int), .int .i64 (t : Int), .int .i64 (d : Int), .int .i64 (a : Int), .int .i64 i]] w fun r w' =>
      r = .returned (.tuple #[]) ∧ Box w' b (cellsC (mhV c ⟨o, s, t, d, a, i, e⟩)) ∧ Kept [b] w w' := by
  obtain ⟨p0, p1, p2, p3, p4, p5, p6, p7, p8, p9⟩ := cParts
  obtain ⟨s0, s1, s2, s3, s4, s5, s6, s7, s8, s9⟩ := cSets
  obtain ⟨k1, k2, k3, k4, k5, k6⟩ := stRules b
  have g := hide (h.grown (.cells #[.int .i64 o, .int .i64 (s : Int), .int .i64 (t : Int), .int .i64 (d : Int), .int .i64 (a : Int), .int .i64 i] 73))
  have kg := hide (Kept.of (l := [b]) (grow w (.cells #[.int .i64 o, .int .i64 (s : Int), .int .i64 (t : Int), .int .i64 (d : Int), .int .i64 (a : Int), .int .i64 i] 73)))
  obtain ⟨r1, r2, r3, r4, r5⟩ := h.cells
  replace h := hide h
  have si0 : (0 : Int) ≤ (s : Int) := by omega
  have si : (s : Int) < 32 := by omega
  have ti0 : (0 : Int) ≤ (t : Int) := by omega
  have ti : (t : Int) < 32 := by omega
  have di0 : (0 : Int) ≤ (d : Int) := by omega
  have di : (d : Int) < 32 := by omega
  rcases ho with rfl | rfl | rfl | rfl
  · go_enter Tryz.func58, Tryz.ntmps58
    go_wp2_with fail
    go_region_with (first | (go_at_call 57; refine (putReg_any g.out.drew d hd c.hi).mono ?_; rintro r w1 ⟨rfl, hw⟩; have B1 : Hid (Box w1 b (cellsC (putC c d c.hi))) := (by rw [hw]; exact hide (g.out.drew.set _)); have K1 : Hid (Kept [b] w w1) := (by rw [hw]; exact hide (kg.out.drew.row _)); clear hw))
    all_goals
      go_wp2
      go_end0
      exact ⟨rfl, B1.out, K1.out⟩
  · go_enter Tryz.func58, Tryz.ntmps58
    go_wp2_with fail
    go_region_with (first | (go_at_call 57; refine (putReg_any g.out.drew d hd c.lo).mono ?_; rintro r w1 ⟨rfl, hw⟩; have B1 : Hid (Box w1 b (cellsC (putC c d c.lo))) := (by rw [hw]; exact hide (g.out.drew.set _)); have K1 : Hid (Kept [b] w w1) := (by rw [hw]; exact hide (kg.out.drew.row _)); clear hw))
    all_goals
      go_wp2
      go_end0
      exact ⟨rfl, B1.out, K1.out⟩
  · go_enter Tryz.func58, Tryz.ntmps58
    go_wp2_with fail
    go_region
    go_wp2
    go_end0
    exact ⟨rfl, (late h.out _ _).1.drew, (late h.out _ _).2.drew⟩
  · go_enter Tryz.func58, Tryz.ntmps58
    go_wp2_with fail
    go_region
    go_wp2
    go_end0
    exact ⟨rfl, (late h.out _ _).1.drew, (late h.out _ _).2.drew⟩

set_option maxHeartbeats 2000000 in
theorem makeHalves_any {w : World} {b : Nat} {c : Cs} (h : Box w b (cellsC c)) (o s t : Int) (hs : Cp.W32 s) (ht : Cp.W32 t) (ho : o = 16 ∨ o = 17 ∨ o = 18 ∨ o = 19) :
    Calls Tryz.prog 59 #[.pointer (some ⟨b, 0, none⟩), .int .i64 o, .int .u32 s, .int .u32 t] w fun r w' =>
      r = .returned (.tuple #[]) ∧ Box w' b (cellsC (halfV c o s t)) ∧ Kept [b] w w' := by
  obtain ⟨p0, p1, p2, p3, p4, p5, p6, p7, p8, p9⟩ := cParts
  obtain ⟨s0, s1, s2, s3, s4, s5, s6, s7, s8, s9⟩ := cSets
  obtain ⟨k1, k2, k3, k4, k5, k6⟩ := stRules b
  obtain ⟨r1, r2, r3, r4, r5⟩ := h.cells
  replace h := hide h
  have kr := hide (Kept.refl [b] w)
  rcases ho with rfl | rfl | rfl | rfl
  · have cm := hide fun x => Wo.mul_any s t true x hs.1 hs.2 ht.1 ht.2
    show Calls _ _ _ _ fun r w' => r = .returned (.tuple #[]) ∧ Box w' b (cellsC { c with hi := Wo.meanB true s * Wo.meanB true t / 4294967296 % 4294967296, lo := Wo.meanB true s * Wo.meanB true t % 4294967296 }) ∧ Kept [b] w w'
    generalize Wo.meanB true s * Wo.meanB true t / 4294967296 % 4294967296 = H at *
    generalize Wo.meanB true s * Wo.meanB true t % 4294967296 = L at *
    replace hs := hide hs
    replace ht := hide ht
    go_enter Tryz.func59, Tryz.ntmps59
    go_wp2_with fail
    refine (cm.out _).mono ?_
    rintro r w1 ⟨rfl, rfl⟩
    go_wp2
    go_end0
    exact ⟨rfl, h.out.set _, kr.out.row _⟩
  · have cm := hide fun x => Wo.mul_any s t false x hs.1 hs.2 ht.1 ht.2
    show Calls _ _ _ _ fun r w' => r = .returned (.tuple #[]) ∧ Box w' b (cellsC { c with hi := Wo.meanB false s * Wo.meanB false t / 4294967296 % 4294967296, lo := Wo.meanB false s * Wo.meanB false t % 4294967296 }) ∧ Kept [b] w w'
    generalize Wo.meanB false s * Wo.meanB false t / 4294967296 % 4294967296 = H at *
    generalize Wo.meanB false s * Wo.meanB false t % 4294967296 = L at *
    replace hs := hide hs
    replace ht := hide ht
    go_enter Tryz.func59, Tryz.ntmps59
    go_wp2_with fail
    refine (cm.out _).mono ?_
    rintro r w1 ⟨rfl, rfl⟩
    go_wp2
    go_end0
    exact ⟨rfl, h.out.set _, kr.out.row _⟩
  · by_cases h0 : t = 0
    · subst h0
      have cm := hide fun x => Wo.div_zero s true x
      show Calls _ _ _ _ fun r w' => r = .returned (.tuple #[]) ∧ Box w' b (cellsC c) ∧ Kept [b] w w'
      replace hs := hide hs
      replace ht := hide ht
      go_enter Tryz.func59, Tryz.ntmps59
      go_wp2_with fail
      refine (cm.out _).mono ?_
      rintro r w1 ⟨rfl, rfl⟩
      go_wp2
      go_end0
      exact ⟨rfl, h.out, kr.out⟩
    · have cm := hide fun x => Wo.div_any s t true x hs.1 hs.2 (by have := ht.1; omega) ht.2
      have hV : halfV c 18 s t = { c with hi := (Wo.meanB true s).tmod (Wo.meanB true t) % 4294967296, lo := (Wo.meanB true s).tdiv (Wo.meanB true t) % 4294967296 } := by
        unfold halfV
        rw [if_neg (by omega), if_neg h0]
        rfl
      rw [hV]
      clear hV
      generalize (Wo.meanB true s).tmod (Wo.meanB true t) % 4294967296 = H at *
      generalize (Wo.meanB true s).tdiv (Wo.meanB true t) % 4294967296 = L at *
      replace hs := hide hs
      replace ht := hide ht
      clear h0
      go_enter Tryz.func59, Tryz.ntmps59
      go_wp2_with fail
      refine (cm.out _).mono ?_
      rintro r w1 ⟨rfl, rfl⟩
      go_wp2
      go_end0
      exact ⟨rfl, h.out.drew.set _, kr.out.drew.row _⟩
  · by_cases h0 : t = 0
    · subst h0
      have cm := hide fun x => Wo.div_zero s false x
      show Calls _ _ _ _ fun r w' => r = .returned (.tuple #[]) ∧ Box w' b (cellsC c) ∧ Kept [b] w w'
      replace hs := hide hs
      replace ht := hide ht
      go_enter Tryz.func59, Tryz.ntmps59
      go_wp2_with fail
      refine (cm.out _).mono ?_
      rintro r w1 ⟨rfl, rfl⟩
      go_wp2
      go_end0
      exact ⟨rfl, h.out, kr.out⟩
    · have cm := hide fun x => Wo.div_any s t false x hs.1 hs.2 (by have := ht.1; omega) ht.2
      have hV : halfV c 19 s t = { c with hi := (Wo.meanB false s).tmod (Wo.meanB false t) % 4294967296, lo := (Wo.meanB false s).tdiv (Wo.meanB false t) % 4294967296 } := by
        unfold halfV
        rw [if_neg (by omega), if_neg h0]
        rfl
      rw [hV]
      clear hV
      generalize (Wo.meanB false s).tmod (Wo.meanB false t) % 4294967296 = H at *
      generalize (Wo.meanB false s).tdiv (Wo.meanB false t) % 4294967296 = L at *
      replace hs := hide hs
      replace ht := hide ht
      clear h0
      go_enter Tryz.func59, Tryz.ntmps59
      go_wp2_with fail
      refine (cm.out _).mono ?_
      rintro r w1 ⟨rfl, rfl⟩
      go_wp2
      go_end0
      exact ⟨rfl, h.out.drew.set _, kr.out.drew.row _⟩

end Go.Proofs.YtmegghgjllbamaaGreatDoor

/- Layer 13: contract of the program's result. -/
namespace Go.Proofs.YtmegghgjllbamaaGreatDoor
open Go.RowKit
set_option linter.unusedVariables false
set_option maxRecDepth 100000
set_option linter.unusedSimpArgs false

/-- The ops that make one number of two. -/
def isAlu (o : Int) : Prop := o = 20 ∨ o = 45 ∨ o = 22 ∨ o = 21 ∨ o = 46 ∨ o = 23 ∨ o = 24 ∨ o = 49 ∨ o = 25 ∨ o = 50 ∨ o = 26 ∨ o = 51 ∨ o = 27 ∨ o = 28 ∨ o = 47 ∨ o = 29 ∨ o = 48 ∨ o = 0 ∨ o = 3 ∨ o = 1 ∨ o = 4 ∨ o = 2 ∨ o = 5 ∨ o = 52 ∨ o = 32 ∨ o = 33 ∨ o = 34

set_option maxHeartbeats 2000000 in
theorem result_any (o x y : Int) (hx : Cp.W32 x) (hy : Cp.W32 y) (ho : isAlu o) (w : World) :
    Calls Tryz.prog 103 #[.int .i64 o, .int .u32 x, .int .u32 y] w fun r w' => r = .returned (.tuple #[.int .u32 (aluV o x y).1, .bool (aluV o x y).2]) ∧ w' = w := by
  obtain ⟨x0, x1⟩ := hx
  obtain ⟨y0, y1⟩ := hy
  unfold isAlu at ho
  rcases ho with rfl | rfl | rfl | rfl | rfl | rfl | rfl | rfl | rfl | rfl | rfl | rfl | rfl | rfl | rfl | rfl | rfl | rfl | rfl | rfl | rfl | rfl | rfl | rfl | rfl | rfl | rfl
  · go_enter Tryz.func103, Tryz.ntmps103
    go_wp2_with fail
    refine (Wo.add_any x y _ x0 x1 y0 y1).mono ?_
    rintro r w1 ⟨rfl, rfl⟩
    go_wp2
    go_ret2
    exact ⟨rfl, rfl⟩
  · go_enter Tryz.func103, Tryz.ntmps103
    go_wp2_with fail
    refine (Wo.add_any x y _ x0 x1 y0 y1).mono ?_
    rintro r w1 ⟨rfl, rfl⟩
    go_wp2
    go_ret2
    exact ⟨rfl, rfl⟩
  · go_enter Tryz.func103, Tryz.ntmps103
    go_wp2_with fail
    refine (Wo.sub_any x y _ x0 x1 y0 y1).mono ?_
    rintro r w1 ⟨rfl, rfl⟩
    go_wp2
    go_ret2
    exact ⟨rfl, rfl⟩
  · go_enter Tryz.func103, Tryz.ntmps103
    go_wp2_with fail
    refine (Wo.add_any x y _ x0 x1 y0 y1).mono ?_
    rintro r w1 ⟨rfl, rfl⟩
    go_wp2
    go_ret2
    exact ⟨rfl, rfl⟩
  · go_enter Tryz.func103, Tryz.ntmps103
    go_wp2_with fail
    refine (Wo.add_any x y _ x0 x1 y0 y1).mono ?_
    rintro r w1 ⟨rfl, rfl⟩
    go_wp2
    go_ret2
    exact ⟨rfl, rfl⟩
  · go_enter Tryz.func103, Tryz.ntmps103
    go_wp2_with fail
    refine (Wo.sub_any x y _ x0 x1 y0 y1).mono ?_
    rintro r w1 ⟨rfl, rfl⟩
    go_wp2
    go_ret2
    exact ⟨rfl, rfl⟩
  · go_enter Tryz.func103, Tryz.ntmps103
    go_wp2
    go_ret2
    exact ⟨rfl, rfl⟩
  · go_enter Tryz.func103, Tryz.ntmps103
    go_wp2
    go_ret2
    exact ⟨rfl, rfl⟩
  · go_enter Tryz.func103, Tryz.ntmps103
    go_wp2
    go_ret2
    exact ⟨rfl, rfl⟩
  · go_enter Tryz.func103, Tryz.ntmps103
    go_wp2
    go_ret2
    exact ⟨rfl, rfl⟩
  · go_enter Tryz.func103, Tryz.ntmps103
    go_wp2
    go_ret2
    exact ⟨rfl, rfl⟩
  · go_enter Tryz.func103, Tryz.ntmps103
    go_wp2
    go_ret2
    exact ⟨rfl, rfl⟩
  · go_enter Tryz.func103, Tryz.ntmps103
    go_wp2
    go_ret2
    exact ⟨rfl, rfl⟩
  · go_enter Tryz.func103, Tryz.ntmps103
    go_wp2_with fail
    refine (Wo.less_any x y true _ x0 x1 y0 y1).mono ?_
    rintro r w1 ⟨rfl, rfl⟩
    go_wp2_with fail
    refine (oneIf_any _ _).mono ?_
    rintro r w1 ⟨rfl, rfl⟩
    go_wp2
    go_ret2
    exact ⟨rfl, rfl⟩
  · go_enter Tryz.func103, Tryz.ntmps103
    go_wp2_with fail
    refine (Wo.less_any x y true _ x0 x1 y0 y1).mono ?_
    rintro r w1 ⟨rfl, rfl⟩
    go_wp2_with fail
    refine (oneIf_any _ _).mono ?_
    rintro r w1 ⟨rfl, rfl⟩
    go_wp2
    go_ret2
    exact ⟨rfl, rfl⟩
  · go_enter Tryz.func103, Tryz.ntmps103
    go_wp2_with fail
    refine (Wo.less_any x y false _ x0 x1 y0 y1).mono ?_
    rintro r w1 ⟨rfl, rfl⟩
    go_wp2_with fail
    refine (oneIf_any _ _).mono ?_
    rintro r w1 ⟨rfl, rfl⟩
    go_wp2
    go_ret2
    exact ⟨rfl, rfl⟩
  · go_enter Tryz.func103, Tryz.ntmps103
    go_wp2_with fail
    refine (Wo.less_any x y false _ x0 x1 y0 y1).mono ?_
    rintro r w1 ⟨rfl, rfl⟩
    go_wp2_with fail
    refine (oneIf_any _ _).mono ?_
    rintro r w1 ⟨rfl, rfl⟩
    go_wp2
    go_ret2
    exact ⟨rfl, rfl⟩
  · go_enter Tryz.func103, Tryz.ntmps103
    go_wp2_with fail
    refine (Wo.shift_any _ x y _ x0 x1).mono ?_
    rintro r w1 ⟨rfl, rfl⟩
    go_wp2
    go_ret2
    exact ⟨rfl, rfl⟩
  · go_enter Tryz.func103, Tryz.ntmps103
    go_wp2_with fail
    refine (Wo.shift_any _ x y _ x0 x1).mono ?_
    rintro r w1 ⟨rfl, rfl⟩
    go_wp2
    go_ret2
    exact ⟨rfl, rfl⟩
  · go_enter Tryz.func103, Tryz.ntmps103
    go_wp2_with fail
    refine (Wo.shift_any _ x y _ x0 x1).mono ?_
    rintro r w1 ⟨rfl, rfl⟩
    go_wp2
    go_ret2
    exact ⟨rfl, rfl⟩
  · go_enter Tryz.func103, Tryz.ntmps103
    go_wp2_with fail
    refine (Wo.shift_any _ x y _ x0 x1).mono ?_
    rintro r w1 ⟨rfl, rfl⟩
    go_wp2
    go_ret2
    exact ⟨rfl, rfl⟩
  · go_enter Tryz.func103, Tryz.ntmps103
    go_wp2_with fail
    refine (Wo.shift_any _ x y _ x0 x1).mono ?_
    rintro r w1 ⟨rfl, rfl⟩
    go_wp2
    go_ret2
    exact ⟨rfl, rfl⟩
  · go_enter Tryz.func103, Tryz.ntmps103
    go_wp2_with fail
    refine (Wo.shift_any _ x y _ x0 x1).mono ?_
    rintro r w1 ⟨rfl, rfl⟩
    go_wp2
    go_ret2
    exact ⟨rfl, rfl⟩
  · go_enter Tryz.func103, Tryz.ntmps103
    go_wp2
    go_ret2
    exact ⟨rfl, rfl⟩
  · go_enter Tryz.func103, Tryz.ntmps103
    go_wp2_with fail
    refine (Wo.mul_any x y true _ x0 x1 y0 y1).mono ?_
    rintro r w1 ⟨rfl, rfl⟩
    go_wp2
    go_ret2
    exact ⟨rfl, rfl⟩
  · go_enter Tryz.func103, Tryz.ntmps103
    go_wp2_with fail
    refine (Wo.lead_any x _ _ x0 x1).mono ?_
    rintro r w1 ⟨rfl, rfl⟩
    go_wp2
    go_ret2
    exact ⟨rfl, rfl⟩
  · go_enter Tryz.func103, Tryz.ntmps103
    go_wp2_with fail
    refine (Wo.lead_any x _ _ x0 x1).mono ?_
    rintro r w1 ⟨rfl, rfl⟩
    go_wp2
    go_ret2
    exact ⟨rfl, rfl⟩

end Go.Proofs.YtmegghgjllbamaaGreatDoor

/- Layer 13: contract of the program's operands. -/
namespace Go.Proofs.YtmegghgjllbamaaGreatDoor
open Go.RowKit
set_option linter.unusedVariables false
set_option maxRecDepth 100000
set_option linter.unusedSimpArgs false

set_option maxHeartbeats 2000000 in
/-- The operands of an op of a form N. -/
theorem operands_raw {w : World} {b : Nat} {c : Cs} (h : Box w b (cellsC c)) (tb : De.Tabs w) (o : Int) (s t d a : Nat) (i : Int) (hs : s < 32) (ht : t < 32) (hd : d < 32) (ha : a < 32) (N : ByteArray) (X Y Z : Int)
    (cf : ∀ x, De.Tabs x → Calls Tryz.prog 75 #[.int .i64 o] x fun r w' => r = .returned (.string N) ∧ Below x.heap.size x w')
    (hN : (N.toList = [83, 72] ∧ X = c.R t ∧ Y = (a : Int) ∧ Z = (d : Int)) ∨
      ((N.toList == [83, 72]) = false ∧ N.toList = [83, 86] ∧ X = c.R t ∧ Y = c.R s ∧ Z = (d : Int)) ∨
      ((N.toList == [83, 72]) = false ∧ (N.toList == [83, 86]) = false ∧ N.toList = [73] ∧ X = c.R s ∧ Y = i % 4294967296 ∧ Z = (t : Int)) ∨
      ((N.toList == [83, 72]) = false ∧ (N.toList == [83, 86]) = false ∧ (N.toList == [73]) = false ∧ N.toList = [73, 85] ∧ X = c.R s ∧ Y = i % 4294967296 ∧ Z = (t : Int)) ∨
      ((N.toList == [83, 72]) = false ∧ (N.toList == [83, 86]) = false ∧ (N.toList == [73]) = false ∧ (N.toList == [73, 85]) = false ∧ N.toList = [76, 85, 73] ∧ X = c.R s ∧ Y = i % 4294967296 ∧ Z = (t : Int)) ∨
      ((N.toList == [83, 72]) = false ∧ (N.toList == [83, 86]) = false ∧ (N.toList == [73]) = false ∧ (N.toList == [73, 85]) = false ∧ (N.toList == [76, 85, 73]) = false ∧ X = c.R s ∧ Y = c.R t ∧ Z = (d : Int))) :
    Calls Tryz.prog 102 #[.pointer (some ⟨b, 0, none⟩), .agg #[.int .i64 o, .int .i64 (s : Int), .int .i64 (t : Int), .int .i64 (d : Int), .int .i64 (a : Int), .int .i64 i]] w fun r w' => r = .returned (.tuple #[.int .u32 X, .int .u32 Y, .int .i64 Z]) ∧ Below w.heap.size w w' := by
  obtain ⟨p0, p1, p2, p3, p4, p5, p6, p7, p8, p9⟩ := cParts
  have g := hide (h.grown (.cells #[.int .i64 o, .int .i64 (s : Int), .int .i64 (t : Int), .int .i64 (d : Int), .int .i64 (a : Int), .int .i64 i] 73))
  have t1 := hide (tb.on (grow w (.cells #[.int .i64 o, .int .i64 (s : Int), .int .i64 (t : Int), .int .i64 (d : Int), .int .i64 (a : Int), .int .i64 i] 73)))
  replace h := hide h
  replace tb := hide tb
  have si0 : (0 : Int) ≤ (s : Int) := by omega
  have si : (s : Int) < 32 := by omega
  have ti0 : (0 : Int) ≤ (t : Int) := by omega
  have ti : (t : Int) < 32 := by omega
  have di0 : (0 : Int) ≤ (d : Int) := by omega
  have di : (d : Int) < 32 := by omega
  have ai0 : (0 : Int) ≤ (a : Int) := by omega
  have ai : (a : Int) < 32 := by omega
  rcases hN with ⟨n1, rfl, rfl, rfl⟩ | ⟨n1, n2, rfl, rfl, rfl⟩ | ⟨n1, n2, n3, rfl, rfl, rfl⟩ | ⟨n1, n2, n3, n4, rfl, rfl, rfl⟩ | ⟨n1, n2, n3, n4, n5, rfl, rfl, rfl⟩ | ⟨n1, n2, n3, n4, n5, rfl, rfl, rfl⟩
  all_goals
    go_enter Tryz.func102, Tryz.ntmps102
    go_wp2_with fail
    refine (cf _ t1.out).mono ?_
    rintro r w1 ⟨rfl, b1⟩
    have B1 := hide (g.out.on b1)
    have L1 := (Box.new w #[.int .i64 o, .int .i64 (s : Int), .int .i64 (t : Int), .int .i64 (d : Int), .int .i64 (a : Int), .int .i64 i] 73).on b1
    have K1 := hide (onto (grow w (.cells #[.int .i64 o, .int .i64 (s : Int), .int .i64 (t : Int), .int .i64 (d : Int), .int .i64 (a : Int), .int .i64 i] 73)) (Nat.le_refl _) b1)
    clear b1
    obtain ⟨r1, r2, r3, r4, r5⟩ := B1.out.cells
    obtain ⟨q1, q2, q3, q4, q5⟩ := L1.cells
    go_wp2_with fail
    go_region
    go_wp2
    go_ret3
    exact ⟨rfl, K1.out.drew⟩

/-- Forms and ops. -/
def opForm (o : Int) : Prop :=
  ((De.Dec.lname (De.Dec.fm (De.idx o))).data.toList = [83, 72] ∧ isSH o) ∨ ((De.Dec.lname (De.Dec.fm (De.idx o))).data.toList = [83, 86] ∧ ¬ isSH o ∧ isSV o) ∨
    (((De.Dec.lname (De.Dec.fm (De.idx o))).data.toList = [73] ∨ (De.Dec.lname (De.Dec.fm (De.idx o))).data.toList = [73, 85] ∨ (De.Dec.lname (De.Dec.fm (De.idx o))).data.toList = [76, 85, 73]) ∧ ¬ isSH o ∧ ¬ isSV o ∧ isIm o) ∨
    (¬ (De.Dec.lname (De.Dec.fm (De.idx o))).data.toList = [83, 72] ∧ ¬ (De.Dec.lname (De.Dec.fm (De.idx o))).data.toList = [83, 86] ∧ ¬ (De.Dec.lname (De.Dec.fm (De.idx o))).data.toList = [73] ∧ ¬ (De.Dec.lname (De.Dec.fm (De.idx o))).data.toList = [73, 85] ∧ ¬ (De.Dec.lname (De.Dec.fm (De.idx o))).data.toList = [76, 85, 73] ∧
      ¬ isSH o ∧ ¬ isSV o ∧ ¬ isIm o)

theorem opForm_of {o : Int} (ho : isAlu o) : opForm o := by
  unfold isAlu at ho
  unfold opForm
  rcases ho with rfl | rfl | rfl | rfl | rfl | rfl | rfl | rfl | rfl | rfl | rfl | rfl | rfl | rfl | rfl | rfl | rfl | rfl | rfl | rfl | rfl | rfl | rfl | rfl | rfl | rfl | rfl
  all_goals decide +kernel

theorem operands_any {w : World} {b : Nat} {c : Cs} (h : Box w b (cellsC c)) (tb : De.Tabs w) (o : Int) (s t d a : Nat) (i e : Int) (hs : s < 32) (ht : t < 32) (hd : d < 32) (ha : a < 32) (ho : isAlu o) :
    Calls Tryz.prog 102 #[.pointer (some ⟨b, 0, none⟩), .agg #[.int .i64 o, .int .i64 (s : Int), .int .i64 (t : Int), .int .i64 (d : Int), .int .i64 (a : Int), .int .i64 i]] w fun r w' =>
      r = .returned (.tuple #[.int .u32 (opX c ⟨o, s, t, d, a, i, e⟩), .int .u32 (opY c ⟨o, s, t, d, a, i, e⟩), .int .i64 ((opD ⟨o, s, t, d, a, i, e⟩ : Nat) : Int)]) ∧ Below w.heap.size w w' := by
  refine operands_raw h tb o s t d a i hs ht hd ha (De.Dec.lname (De.Dec.fm (De.idx o))) _ _ _ (fun x tx => De.form_any o x tx) ?_
  have hf := opForm_of ho
  unfold opForm at hf
  unfold opX opY opD
  simp only [ByteArray.toList_eq]
  rcases hf with ⟨f1, f2⟩ | ⟨f1, f2, f3⟩ | ⟨f1, f2, f3, f4⟩ | ⟨f1, f2, f3, f4, f5, f6, f7, f8⟩
  · have n8 : ¬ isIm o := by unfold isSH at f2; unfold isIm; omega
    refine Or.inl ⟨f1, ?_, ?_, ?_⟩
    · rw [if_pos (Or.inl f2)]; rfl
    · rw [if_pos f2]
    · rw [if_neg n8]; rfl
  · have n8 : ¬ isIm o := by unfold isSV at f3; unfold isIm; omega
    refine Or.inr (Or.inl ⟨by rw [f1]; rfl, f1, ?_, ?_, ?_⟩)
    · rw [if_pos (Or.inr f3)]; rfl
    · rw [if_neg f2, if_pos f3]; rfl
    · rw [if_neg n8]; rfl
  · have e1 : (if isSH o ∨ isSV o then c.R ((t : Int)).toNat else c.R ((s : Int)).toNat) = c.R s := by rw [if_neg (by rintro (h | h); exact f2 h; exact f3 h)]; rfl
    have e2 : (if isSH o then (a : Int) else if isSV o then c.R ((s : Int)).toNat else if isIm o then i % 4294967296 else c.R ((t : Int)).toNat) = i % 4294967296 := by rw [if_neg f2, if_neg f3, if_pos f4]
    have e3 : (((if isIm o then ((t : Int)).toNat else ((d : Int)).toNat : Nat)) : Int) = (t : Int) := by rw [if_pos f4]; rfl
    rcases f1 with f1 | f1 | f1
    · exact Or.inr (Or.inr (Or.inl ⟨by rw [f1]; rfl, by rw [f1]; rfl, f1, e1, e2, e3⟩))
    · exact Or.inr (Or.inr (Or.inr (Or.inl ⟨by rw [f1]; rfl, by rw [f1]; rfl, by rw [f1]; rfl, f1, e1, e2, e3⟩)))
    · exact Or.inr (Or.inr (Or.inr (Or.inr (Or.inl ⟨by rw [f1]; rfl, by rw [f1]; rfl, by rw [f1]; rfl, by rw [f1]; rfl, f1, e1, e2, e3⟩))))
  · refine Or.inr (Or.inr (Or.inr (Or.inr (Or.inr ⟨by simpa using f1, by simpa using f2, by simpa using f3, by simpa using f4, by simpa using f5, ?_, ?_, ?_⟩))))
    · rw [if_neg (by rintro (h | h); exact f6 h; exact f7 h)]; rfl
    · rw [if_neg f6, if_neg f7, if_neg f8]; rfl
    · rw [if_neg f8]; rfl

end Go.Proofs.YtmegghgjllbamaaGreatDoor

/- Layer 13: contracts of what the program's system does. -/
namespace Go.Proofs.YtmegghgjllbamaaGreatDoor
open Go.RowKit
set_option linter.unusedVariables false
set_option maxRecDepth 100000
set_option linter.unusedSimpArgs false

theorem prV_w {c : Cs} (h : Wc c) : Cp.W32 (prV c) := by
  unfold prV
  split
  · exact Cp.mix_w (by constructor <;> omega)
  · rcases findV_is c.T c.C.h (c.C.h % 256) with ⟨e, -⟩ | ⟨k, hk, e, -, -⟩
    · omega
    · rw [e]; constructor <;> omega

set_option maxHeartbeats 2000000 in
theorem probed_any {w : World} {b : Nat} {c : Cs} (h : Box w b (cellsC c)) (hc : Wc c) :
    Calls Tryz.prog 97 #[.pointer (some ⟨b, 0, none⟩)] w fun r w' => r = .returned (.int .u32 (prV c)) ∧ Below w.heap.size w w' := by
  obtain ⟨t1, t2, t3, t4, t5, t6, t7, t8, t9⟩ := rowRules
  obtain ⟨z1, z2, z3, z4, z5, z6, z7, z8, z9, z10, z11, z12, z13, z14, z15⟩ := cSizes
  obtain ⟨f1, f2, f3, f4, f5, f6, f7, f8, f9⟩ := cWhole
  obtain ⟨p0, p1, p2, p3, p4, p5, p6, p7, p8, p9⟩ := cParts
  have hH := hc.C.h
  have a255 : bits .and .u32 c.C.h 255 = c.C.h % 256 := Tl.and255 c.C.h hH.1 hH.2
  have cm := hide (find_fn c.T c.C.h (c.C.h % 256) hc.T hH (by constructor <;> omega))
  have or1 : bits .or .u32 c.C.i 2147483648 = Cp.mixV c.C.i 2147483648 2147483648 := Cp.or_of hc.C.i (by constructor <;> omega)
  have S0 := sees ⟨h, Below.refl _ _⟩ (Below.refl _ _).drew
  unfold prV
  have hk : findV c.T c.C.h (c.C.h % 256) = -1 ∨ (0 ≤ findV c.T c.C.h (c.C.h % 256) ∧ findV c.T c.C.h (c.C.h % 256) < 8) := by
    rcases findV_is c.T c.C.h (c.C.h % 256) with ⟨e, -⟩ | ⟨k, hk, e, -, -⟩
    · exact Or.inl e
    · exact Or.inr (by omega)
  generalize findV c.T c.C.h (c.C.h % 256) = K at *
  replace hc := hide hc
  clear hH
  go_enter Tryz.func97, Tryz.ntmps97
  go_wp2_with fail
  go_region_held3 (fun x => (loadCellsFrom ⟨b, 47, none⟩ 0 Tl.N16 #[]).run Tryz.prog x = .ok (Tl.cellsT c.T) x ∧ x.cell? ⟨b, 42, none⟩ = some (.int .u32 c.C.h) ∧ (Box x b (cellsC c) ∧ Below w.heap.size w x))
    (first | exact S0 | assumption | exact sees (And.right (And.right (by assumption))) (by assumption))
    (first | (go_at_call 121; refine (cm.out _).mono ?_; rintro r w2 ⟨rfl, b2⟩; go_wp2_with fail))
  have hS : Box w2 b (cellsC c) ∧ Below w.heap.size w w2 := by
    have h : (loadCellsFrom ⟨b, 47, none⟩ 0 Tl.N16 #[]).run Tryz.prog w2 = .ok (Tl.cellsT c.T) w2 ∧ w2.cell? ⟨b, 42, none⟩ = some (.int .u32 c.C.h) ∧ (Box w2 b (cellsC c) ∧ Below w.heap.size w w2) := by assumption
    exact h.2.2
  have b3 := hide hS.2
  obtain ⟨r1, r2, r3, r4, r5⟩ := hS.1.cells
  clear cm h a255 S0 hS
  rcases hk with rfl | ⟨k0, k1⟩
  · go_wp2
    go_ret
    exact ⟨rfl, b3.out⟩
  · have k2 : decide (K < 0) = false := by simp; omega
    go_wp2
    go_ret
    exact ⟨rfl, b3.out⟩

end Go.Proofs.YtmegghgjllbamaaGreatDoor
