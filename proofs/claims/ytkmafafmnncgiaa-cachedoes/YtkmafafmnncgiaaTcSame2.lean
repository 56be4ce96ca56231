/- Layer 16: are blocks the same? -/
import Derived.Test.YtkmafafmnncgiaaTcSame
import Derived.Test.YtkmafafmnncgiaaTcCache
namespace Go.Proofs.Ytkmafafmnncgiaa
open Go.RowKit
set_option linter.unusedVariables false
set_option linter.unusedSimpArgs false

set_option maxHeartbeats 4000000 in
theorem bsame_any {w : World} {F G : Nat → Prop} {a b : Value} {x y : Blk} (ha : BlkAt w F a x) (hb : BlkAt w G b y) :
    Calls Try.prog 14 #[a, b] w fun e w' => e = .returned (.bool (decide (x = y))) ∧ Below w.heap.size w w' := by
  obtain ⟨v1, v2, v3, rfl, h1, h2, h3, -⟩ := ha
  obtain ⟨u1, u2, u3, rfl, k1, k2, k3, -⟩ := hb
  have G1 := grow w (.cells #[.int .u32 x.pc, v1, v2, v3] 38)
  have G2 := grow (w.alloc (.cells #[.int .u32 x.pc, v1, v2, v3] 38)) (.cells #[.int .u32 y.pc, u1, u2, u3] 38)
  have BX := (Box.new w #[.int .u32 x.pc, v1, v2, v3] 38).on G2
  have BY := Box.new (w.alloc (.cells #[.int .u32 x.pc, v1, v2, v3] 38)) #[.int .u32 y.pc, u1, u2, u3] 38
  have hsz : (w.alloc (.cells #[.int .u32 x.pc, v1, v2, v3] 38)).heap.size = w.heap.size + 1 := by simp
  rw [hsz] at BY
  have GG : Below w.heap.size w ((w.alloc (.cells #[.int .u32 x.pc, v1, v2, v3] 38)).alloc (.cells #[.int .u32 y.pc, u1, u2, u3] 38)) := onto G1 (Nat.le_refl _) G2
  obtain ⟨w2, hw2⟩ : ∃ w2, w2 = (w.alloc (.cells #[.int .u32 x.pc, v1, v2, v3] 38)).alloc (.cells #[.int .u32 y.pc, u1, u2, u3] 38) := ⟨_, rfl⟩
  rw [← hw2] at BX BY GG
  replace BX := hide BX
  replace BY := hide BY
  replace GG := hide GG
  replace h1 := hide h1
  replace h2 := hide h2
  replace h3 := hide h3
  replace k1 := hide k1
  replace k2 := hide k2
  replace k3 := hide k3
  clear G1 G2 hsz
  by_cases e0 : x.pc = y.pc
  · by_cases e1 : x.ws = y.ws
    · by_cases e2 : x.os = y.os
      · by_cases e3 : x.ps = y.ps
        · have d : decide (x = y) = true := by obtain ⟨p0, p1, p2, p3⟩ := x; obtain ⟨q0, q1, q2, q3⟩ := y; simp_all
          have t0 : (x.pc == y.pc) = true := by simpa using e0
          have d1 : decide (x.ws = y.ws) = true := by simpa using e1
          have d2 : decide (x.os = y.os) = true := by simpa using e2
          have d3 : decide (x.ps = y.ps) = true := by simpa using e3
          rw [d]
          subst hw2
          have hc1 := wsame_any (h1.out.on GG.out) (k1.out.on GG.out)
          rw [d1] at hc1
          clear e0 e1 e2 e3
          go_enter Try.func14, Try.ntmps14
          go_wp2_with fail
          refine hc1.mono ?_
          rintro e w3 ⟨rfl, hb⟩
          clear hc1
          have G3 := hide (onto GG.out (Nat.le_refl _) hb)
          have X2 := BX.out.on hb
          have Y2 := BY.out.on hb
          have x2 := X2.cell 2
          have y2 := Y2.cell 2
          replace X2 := hide X2
          replace Y2 := hide Y2
          have hc2 := msame_any (h2.out.on G3.out) (k2.out.on G3.out)
          rw [d2] at hc2
          clear hb
          go_wp2_with fail
          refine hc2.mono ?_
          rintro e w4 ⟨rfl, hb⟩
          clear hc2 x2 y2
          have G4 := hide (onto G3.out (Nat.le_refl _) hb)
          have X3 := X2.out.on hb
          have Y3 := Y2.out.on hb
          have x3 := X3.cell 3
          have y3 := Y3.cell 3
          replace X3 := hide X3
          replace Y3 := hide Y3
          have hc3 := msame_any (h3.out.on G4.out) (k3.out.on G4.out)
          rw [d3] at hc3
          clear hb
          go_wp2_with fail
          refine hc3.mono ?_
          rintro e w5 ⟨rfl, hb⟩
          clear hc3 x3 y3
          have G5 := hide (onto G4.out (Nat.le_refl _) hb)
          go_wp2
          go_ret
          exact ⟨rfl, G5.out⟩
        · have d : decide (x = y) = false := by simp only [decide_eq_false_iff_not]; intro e; rw [e] at e3; exact e3 rfl
          have t0 : (x.pc == y.pc) = true := by simpa using e0
          have d1 : decide (x.ws = y.ws) = true := by simpa using e1
          have d2 : decide (x.os = y.os) = true := by simpa using e2
          have d3 : decide (x.ps = y.ps) = false := by simpa using e3
          rw [d]
          subst hw2
          have hc1 := wsame_any (h1.out.on GG.out) (k1.out.on GG.out)
          rw [d1] at hc1
          clear e0 e1 e2 e3
          go_enter Try.func14, Try.ntmps14
          go_wp2_with fail
          refine hc1.mono ?_
          rintro e w3 ⟨rfl, hb⟩
          clear hc1
          have G3 := hide (onto GG.out (Nat.le_refl _) hb)
          have X2 := BX.out.on hb
          have Y2 := BY.out.on hb
          have x2 := X2.cell 2
          have y2 := Y2.cell 2
          replace X2 := hide X2
          replace Y2 := hide Y2
          have hc2 := msame_any (h2.out.on G3.out) (k2.out.on G3.out)
          rw [d2] at hc2
          clear hb
          go_wp2_with fail
          refine hc2.mono ?_
          rintro e w4 ⟨rfl, hb⟩
          clear hc2 x2 y2
          have G4 := hide (onto G3.out (Nat.le_refl _) hb)
          have X3 := X2.out.on hb
          have Y3 := Y2.out.on hb
          have x3 := X3.cell 3
          have y3 := Y3.cell 3
          replace X3 := hide X3
          replace Y3 := hide Y3
          have hc3 := msame_any (h3.out.on G4.out) (k3.out.on G4.out)
          rw [d3] at hc3
          clear hb
          go_wp2_with fail
          refine hc3.mono ?_
          rintro e w5 ⟨rfl, hb⟩
          clear hc3 x3 y3
          have G5 := hide (onto G4.out (Nat.le_refl _) hb)
          go_wp2
          go_ret
          exact ⟨rfl, G5.out⟩
      · have d : decide (x = y) = false := by simp only [decide_eq_false_iff_not]; intro e; rw [e] at e2; exact e2 rfl
        have t0 : (x.pc == y.pc) = true := by simpa using e0
        have d1 : decide (x.ws = y.ws) = true := by simpa using e1
        have d2 : decide (x.os = y.os) = false := by simpa using e2
        rw [d]
        subst hw2
        have hc1 := wsame_any (h1.out.on GG.out) (k1.out.on GG.out)
        rw [d1] at hc1
        clear e0 e1 e2
        go_enter Try.func14, Try.ntmps14
        go_wp2_with fail
        refine hc1.mono ?_
        rintro e w3 ⟨rfl, hb⟩
        clear hc1
        have G3 := hide (onto GG.out (Nat.le_refl _) hb)
        have X2 := BX.out.on hb
        have Y2 := BY.out.on hb
        have x2 := X2.cell 2
        have y2 := Y2.cell 2
        replace X2 := hide X2
        replace Y2 := hide Y2
        have hc2 := msame_any (h2.out.on G3.out) (k2.out.on G3.out)
        rw [d2] at hc2
        clear hb
        go_wp2_with fail
        refine hc2.mono ?_
        rintro e w4 ⟨rfl, hb⟩
        clear hc2 x2 y2
        have G4 := hide (onto G3.out (Nat.le_refl _) hb)
        go_wp2
        go_ret
        exact ⟨rfl, G4.out⟩
    · have d : decide (x = y) = false := by simp only [decide_eq_false_iff_not]; intro e; rw [e] at e1; exact e1 rfl
      have t0 : (x.pc == y.pc) = true := by simpa using e0
      have d1 : decide (x.ws = y.ws) = false := by simpa using e1
      rw [d]
      subst hw2
      have hc1 := wsame_any (h1.out.on GG.out) (k1.out.on GG.out)
      rw [d1] at hc1
      clear e0 e1
      go_enter Try.func14, Try.ntmps14
      go_wp2_with fail
      refine hc1.mono ?_
      rintro e w3 ⟨rfl, hb⟩
      clear hc1
      have G3 := hide (onto GG.out (Nat.le_refl _) hb)
      go_wp2
      go_ret
      exact ⟨rfl, G3.out⟩
  · have d : decide (x = y) = false := by simp; intro e; rw [e] at e0; exact e0 rfl
    have t0 : (x.pc == y.pc) = false := by simpa using e0
    rw [d]
    clear e0
    subst hw2
    go_enter Try.func14, Try.ntmps14
    go_wp2
    go_ret
    exact ⟨rfl, GG.out⟩

end Go.Proofs.Ytkmafafmnncgiaa
