/- Layer 15: contract of what Dead makes of an operation. -/
import Derived.Test.YtnbflahggpehpabQOpEach2
namespace Go.Proofs.Ytnbflahggpehpab.Ir
open Go.RowKit
set_option linter.unusedVariables false
set_option maxRecDepth 100000
set_option linter.unusedSimpArgs false

/-- What Dead's closure holds: what is lost in block B, the operation, the answer and what is kept in blocks of its own. -/
def HeldD (w : World) (B : Nat) (c : Array Value) (m q : Mi) (y : World) : Prop :=
  Box y B c ∧ Box y w.heap.size (cellsM m) ∧ Box y (w.heap.size + 1) (cellsM M0) ∧ Box y (w.heap.size + 1 + 1) (cellsM q) ∧ B < w.heap.size ∧ w.grownBy y (some B)

theorem HeldD.new (w : World) (B : Nat) (c : Array Value) (m : Mi) (h : Box w B c) : HeldD w B c m m (((w.alloc (.cells (cellsM m) 32)).alloc (.cells (cellsM M0) 32)).alloc (.cells (cellsM m) 32)) := by
  have a := Box.new w (cellsM m) 32
  have b := Box.new (w.alloc (.cells (cellsM m) 32)) (cellsM M0) 32
  have d := Box.new ((w.alloc (.cells (cellsM m) 32)).alloc (.cells (cellsM M0) 32)) (cellsM m) 32
  simp only [World.size_alloc] at b d
  have g := onto (onto (grow w (.cells (cellsM m) 32)) (Nat.le_refl _) (grow _ (.cells (cellsM M0) 32))) (Nat.le_refl _) (grow _ (.cells (cellsM m) 32))
  exact ⟨h.on g, (a.on (grow _ _)).on (grow _ _), b.on (grow _ _), d, h.2.2, (grown_of g).but _⟩

theorem HeldD.on {w : World} {B : Nat} {c : Array Value} {m q : Mi} {y z : World} (h : HeldD w B c m q y) (hb : Below y.heap.size y z) : HeldD w B c m q z :=
  ⟨h.1.on hb, h.2.1.on hb, h.2.2.1.on hb, h.2.2.2.1.on hb, h.2.2.2.2.1, h.2.2.2.2.2.trans ((grown_of hb).but _)⟩

theorem HeldD.note {w : World} {B : Nat} {L : Nat → Bool} {m q : Mi} {y : World} (h : HeldD w B (cellsL L) m q y) (k : Nat) (hk : k < 32) (v : Bool) : HeldD w B (cellsL (putL L k v)) m q (y.setCell ⟨B, k, none⟩ (.bool v)) := by
  rw [setCell_row _ _ _ _ h.1.1, h.1.2.1, set_L L k hk v]
  have := h.2.2.2.2.1
  exact ⟨h.1.set _, h.2.1.far _ _ (by omega), h.2.2.1.far _ _ (by omega), h.2.2.2.1.far _ _ (by omega), h.2.2.2.2.1, grown_row h.2.2.2.2.2 (Or.inl rfl) _⟩

theorem HeldD.keep {w : World} {B : Nat} {c : Array Value} {m q : Mi} {y : World} (h : HeldD w B c m q y) (p : Mi) : HeldD w B c m p (y.setRow (w.heap.size + 1 + 1) (cellsM p)) := by
  have := h.2.2.2.2.1
  exact ⟨h.1.far _ _ (by omega), h.2.1.far _ _ (by omega), h.2.2.1.far _ _ (by omega), h.2.2.2.1.set _, h.2.2.2.2.1, grown_row h.2.2.2.2.2 (Or.inr (by omega)) _⟩

theorem HeldD.done {w : World} {B : Nat} {c : Array Value} {m q : Mi} {y : World} (h : HeldD w B c m q y) (d : Array Value) : Box (y.setRow (w.heap.size + 1) d) B c ∧ w.grownBy (y.setRow (w.heap.size + 1) d) (some B) :=
  ⟨h.1.far _ _ (by have := h.2.2.2.2.1; omega), grown_row h.2.2.2.2.2 (Or.inr (by omega)) _⟩

set_option maxHeartbeats 8000000 in
theorem dead1_any (L : Nat → Bool) (m : Mi) (B : Nat) (w : World) (hB : Box w B (cellsL L)) : Calls Try.prog 21 #[.agg (cellsM m), .pointer (some ⟨B, 0, none⟩)] w fun e w' =>
    e = .returned (.agg (cellsM (ddM L m))) ∧ Box w' B (cellsL (ddL L m)) ∧ w.grownBy w' (some B) := by
  obtain ⟨r1, r2, r3, r4, r5, r6, r7, r8, r9⟩ := rowRules
  obtain ⟨s1, s2, s3, s4, s5, s6, s7, s8, s9, s10⟩ := irSizes
  obtain ⟨q1, q2, q3, q4, q5, q6⟩ := irWhole
  obtain ⟨p1, p2, p3, p4, p5, p6, p7⟩ := irParts
  obtain ⟨k1, k2⟩ := rowSets
  have gL := get_L
  obtain ⟨R, hR⟩ : ∃ R, R = ddM L m := ⟨_, rfl⟩
  obtain ⟨L1, hL1⟩ : ∃ L1, L1 = ddW L m := ⟨_, rfl⟩
  obtain ⟨L2, hL2⟩ : ∃ L2, L2 = ddA L1 m := ⟨_, rfl⟩
  obtain ⟨L3, hL3⟩ : ∃ L3, L3 = ddB L2 m := ⟨_, rfl⟩
  rw [show ddL L m = L3 by rw [hL3, hL2, hL1]; rfl, ← hR]
  have h0 := hide (HeldD.new w B (cellsL L) m hB)
  have cw := hide (owrites_any m)
  have cA := hide (readsA_any m)
  have cB := hide (readsB_any m)
  have nB1 : ¬ w.heap.size + 1 = B := by have := hB.2.2; omega
  have nB2 : ¬ w.heap.size + 1 + 1 = B := by have := hB.2.2; omega
  replace hR := hide hR
  replace hL1 := hide hL1
  replace hL2 := hide hL2
  replace hL3 := hide hL3
  replace gL := hide gL
  clear hB
  go_enter Try.func21, Try.ntmps21
  go_wp2_with fail
  generalize World.alloc (World.alloc (World.alloc w _) _) _ = Y0 at *
  refine (cw.out _).mono ?_
  rintro r Y1 ⟨rfl, hY1⟩
  have h1 := hide (h0.out.on hY1)
  clear h0 hY1
  have l1 := h1.out.2.1.loads 0 N6 (q1 _) (q2 _)
  by_cases hW : wrB m = true
  case' pos =>
    obtain ⟨D, hD, hD32⟩ : ∃ D : Nat, m.d = (D : Int) ∧ D < 32 := ⟨m.d.toNat, by simp [wrB] at hW; omega, by simp [wrB] at hW; omega⟩
    have x1 : Y1.cell? ⟨w.heap.size, 1, none⟩ = some (.int .i64 (D : Int)) := by rw [← hD]; exact (h1.out.2.1.cell 1).trans (p2 m)
    have x2 : Y1.cell? ⟨B, D, none⟩ = some (.bool (L D)) := (h1.out.1.cell D).trans (gL.out L D hD32)
    replace hD := hide hD
    rw [hW]
    by_cases hZ : L D = true
    case' pos =>
      rw [hZ] at x2
      have eR : R = M0 := by rw [hR.out, ddM, if_pos ⟨hW, by rw [hD.out]; exact hZ⟩]
      have h2 : Hid (HeldD w B (cellsL L) m R (Y1.setRow (w.heap.size + 1 + 1) (cellsM M0))) := hide (by rw [eR]; exact h1.out.keep M0)
      obtain ⟨b1, b2, b3⟩ := h1.out.2.2.2.1
      have l2 := h2.out.2.1.loads 0 N6 (q1 _) (q2 _)
      clear hZ eR h1
      go_wp2_with fail
      generalize World.setRow Y1 (w.heap.size + 1 + 1) (cellsM M0) = Y2 at *
      clear b1 b2 b3 x1 x2 l1 l2
      clear Y1
    case' neg =>
      have hZ' : L D = false := by simpa using hZ
      rw [hZ'] at x2
      have eR : R = m := by rw [hR.out, ddM, if_neg (fun h => hZ (by have := h.2; rw [hD.out] at this; exact this))]
      have h2 : Hid (HeldD w B (cellsL L) m R Y1) := hide (by rw [eR]; exact h1.out)
      clear hZ hZ' eR h1
      go_wp2_with fail
      clear x1 x2 l1
    all_goals
      refine (cw.out _).mono ?_
      rintro r Y3 ⟨rfl, hY3⟩
      have h3 := hide (h2.out.on hY3)
      clear h2 hY3 cw
      have x1 : Y3.cell? ⟨w.heap.size, 1, none⟩ = some (.int .i64 (D : Int)) := by rw [← hD.out]; exact (h3.out.2.1.cell 1).trans (p2 m)
      have x2 : Y3.cell? ⟨B, D, none⟩ = some (.bool (L D)) := (h3.out.1.cell D).trans (gL.out L D hD32)
      have x3 := h3.out.1.free D
      have eL : L1 = putL L D true := by rw [hL1.out, ddW, hW, hD.out]; rfl
      have h4 := hide (h3.out.note D hD32 true)
      rw [← eL] at h4
      have l4 := h4.out.2.1.loads 0 N6 (q1 _) (q2 _)
      rw [hW]
      clear h3 eL
      go_wp2_with fail
      generalize World.setCell Y3 _ _ = Y4 at *
      clear x1 x2 x3 l4 hD
      clear Y3
  case' neg =>
    have hW' : wrB m = false := by simpa using hW
    have eR : R = m := by rw [hR.out, ddM, if_neg (fun h => hW h.1)]
    have eL : L1 = L := by rw [hL1.out, ddW, hW']; rfl
    have h2 : Hid (HeldD w B (cellsL L) m R Y1) := hide (by rw [eR]; exact h1.out)
    rw [hW']
    clear eR h1
    go_wp2_with fail
    refine (cw.out _).mono ?_
    rintro r Y3 ⟨rfl, hY3⟩
    have h4 := hide (h2.out.on hY3)
    rw [← eL] at h4
    clear h2 hY3 cw l1
    have l4 := h4.out.2.1.loads 0 N6 (q1 _) (q2 _)
    rw [hW']
    clear hW' eL
    go_wp2_with fail
    clear l4
  all_goals
    clear hW
    refine (cA.out _).mono ?_
    rintro r Y5 ⟨rfl, hY5⟩
    have h5 := hide (h4.out.on hY5)
    clear h4 hY5 cA
    by_cases hA : rdA m = true
    case' pos =>
      obtain ⟨k, ek, hk⟩ := reg_of hA
      have x1 : Y5.cell? ⟨w.heap.size, 2, none⟩ = some (.int .i64 (k : Int)) := by rw [← ek]; exact (h5.out.2.1.cell 2).trans (p3 m)
      have x2 : Y5.cell? ⟨B, k, none⟩ = some (.bool (L1 k)) := (h5.out.1.cell k).trans (gL.out L1 k hk)
      have x3 := h5.out.1.free k
      have eL : L2 = putL L1 k false := by rw [hL2.out, ddA, hA, ek]; rfl
      have h6 := hide (h5.out.note k hk false)
      rw [← eL] at h6
      have l6 := h6.out.2.1.loads 0 N6 (q1 _) (q2 _)
      rw [hA]
      clear h5 eL ek
      go_wp2_with fail
      generalize World.setCell Y5 _ _ = Y6 at *
      clear x1 x2 x3 l6
      clear Y5
    case' neg =>
      have hA' : rdA m = false := by simpa using hA
      have eL : L2 = L1 := by rw [hL2.out, ddA, hA']; rfl
      have h6 := hide h5.out
      rw [← eL] at h6
      have l6 := h6.out.2.1.loads 0 N6 (q1 _) (q2 _)
      rw [hA']
      clear h5 eL hA'
      go_wp2_with fail
      clear l6
    all_goals
      clear hA
      refine (cB.out _).mono ?_
      rintro r Y7 ⟨rfl, hY7⟩
      have h7 := hide (h6.out.on hY7)
      clear h6 hY7 cB
      by_cases hA : rdB m = true
      · obtain ⟨k, ek, hk⟩ := reg_ofB hA
        have x1 : Y7.cell? ⟨w.heap.size, 3, none⟩ = some (.int .i64 (k : Int)) := by rw [← ek]; exact (h7.out.2.1.cell 3).trans (p4 m)
        have x2 : Y7.cell? ⟨B, k, none⟩ = some (.bool (L2 k)) := (h7.out.1.cell k).trans (gL.out L2 k hk)
        have x3 := h7.out.1.free k
        have eL : L3 = putL L2 k false := by rw [hL3.out, ddB, hA, ek]; rfl
        have h8 := hide (h7.out.note k hk false)
        rw [← eL] at h8
        have l8 := h8.out.2.2.2.1.loads 0 N6 (q1 _) (q2 _)
        obtain ⟨d1, d2, d3⟩ := h8.out.2.2.1
        have h9 := hide (h8.out.done (cellsM R))
        rw [hA]
        clear h7 eL ek h8
        go_wp2
        refine bodyPost_ret (v := .agg (cellsM R)) (by simp [results, Try.results21, go_sem, *]) rfl ⟨rfl, ?_⟩
        exact h9.out
      · have hA' : rdB m = false := by simpa using hA
        have eL : L3 = L2 := by rw [hL3.out, ddB, hA']; rfl
        have h8 := hide h7.out
        rw [← eL] at h8
        have l8 := h8.out.2.2.2.1.loads 0 N6 (q1 _) (q2 _)
        obtain ⟨d1, d2, d3⟩ := h8.out.2.2.1
        have h9 := hide (h8.out.done (cellsM R))
        rw [hA']
        clear h7 eL h8
        go_wp2
        refine bodyPost_ret (v := .agg (cellsM R)) (by simp [results, Try.results21, go_sem, *]) rfl ⟨rfl, ?_⟩
        exact h9.out

end Go.Proofs.Ytnbflahggpehpab.Ir
