/- Layer 15: contract of what Copy makes of an operation. -/
import Derived.Test.YtnbflahggpehpabQOpCopy
import Derived.Maps.AppendAt
import Derived.Maps.Range
import Derived.Maps.RangeWalk
namespace Go.Proofs.Ytnbflahggpehpab.Ir
open Go.RowKit
set_option linter.unusedVariables false
set_option maxRecDepth 100000
set_option linter.unusedSimpArgs false

theorem grown_of {w w' : World} (h : Below w.heap.size w w') : w.grownBy w' none := ⟨h.os, h.tape, h.output, h.size, fun k hk _ => h.block k hk⟩

theorem grown_row {w y : World} {B g : Nat} (h : w.grownBy y (some B)) (hg : g = B ∨ w.heap.size ≤ g) (c : Array Value) : w.grownBy (y.setRow g c) (some B) :=
  ⟨h.os, h.tape, h.output, by rw [setRow_size]; exact h.size, fun k hk hne => by
    rw [setRow_other _ _ _ _ (by rcases hg with rfl | hg; exact fun e => hne (by rw [e]); omega)]
    exact h.block k hk hne⟩

/-- What a pass's closure holds: what is noted in block B, the operation and the answer in blocks of its own. -/
def HeldC (w : World) (B : Nat) (c : Array Value) (m : Mi) (y : World) : Prop :=
  Box y B c ∧ Box y w.heap.size (cellsM m) ∧ Box y (w.heap.size + 1) (cellsM M0) ∧ B < w.heap.size ∧ w.grownBy y (some B)

theorem HeldC.new (w : World) (B : Nat) (c : Array Value) (m : Mi) (h : Box w B c) : HeldC w B c m ((w.alloc (.cells (cellsM m) 32)).alloc (.cells (cellsM M0) 32)) := by
  have a := Box.new w (cellsM m) 32
  have b := Box.new (w.alloc (.cells (cellsM m) 32)) (cellsM M0) 32
  simp only [World.size_alloc] at b
  have g := onto (grow w (.cells (cellsM m) 32)) (Nat.le_refl _) (grow _ (.cells (cellsM M0) 32))
  exact ⟨h.on g, a.on (grow _ _), b, h.2.2, (grown_of g).but _⟩

theorem HeldC.on {w : World} {B : Nat} {c : Array Value} {m : Mi} {y z : World} (h : HeldC w B c m y) (hb : Below y.heap.size y z) : HeldC w B c m z :=
  ⟨h.1.on hb, h.2.1.on hb, h.2.2.1.on hb, h.2.2.2.1, h.2.2.2.2.trans ((grown_of hb).but _)⟩

theorem HeldC.put {w : World} {B : Nat} {c : Array Value} {m : Mi} {y : World} (h : HeldC w B c m y) (j : Nat) (v : Value) (q : Mi) (hq : (cellsM m).setIfInBounds j v = cellsM q) : HeldC w B c q (y.setCell ⟨w.heap.size, j, none⟩ v) := by
  rw [setCell_row _ _ _ _ h.2.1.1, h.2.1.2.1, hq]
  exact ⟨h.1.far _ _ (by have := h.2.2.2.1; omega), h.2.1.set _, h.2.2.1.far _ _ (by omega), h.2.2.2.1, grown_row h.2.2.2.2 (Or.inr (Nat.le_refl _)) _⟩

theorem HeldC.note {w : World} {B : Nat} {c : Array Value} {m : Mi} {y : World} (h : HeldC w B c m y) (d : Array Value) : HeldC w B d m (y.setRow B d) :=
  ⟨h.1.set _, h.2.1.far _ _ (by have := h.2.2.2.1; omega), h.2.2.1.far _ _ (by have := h.2.2.2.1; omega), h.2.2.2.1, grown_row h.2.2.2.2 (Or.inl rfl) _⟩

theorem HeldC.done {w : World} {B : Nat} {c : Array Value} {m : Mi} {y : World} (h : HeldC w B c m y) (d : Array Value) : Box (y.setRow (w.heap.size + 1) d) B c ∧ w.grownBy (y.setRow (w.heap.size + 1) d) (some B) :=
  ⟨h.1.far _ _ (by have := h.2.2.2.1; omega), grown_row h.2.2.2.2 (Or.inr (by omega)) _⟩

theorem reg_of {m : Mi} (h : rdA m = true) : ∃ k : Nat, m.a = (k : Int) ∧ k < 32 := ⟨m.a.toNat, by simp [rdA, regB] at h; omega, by simp [rdA, regB] at h; omega⟩
theorem reg_ofB {m : Mi} (h : rdB m = true) : ∃ k : Nat, m.b = (k : Int) ∧ k < 32 := ⟨m.b.toNat, by simp [rdB, regB] at h; omega, by simp [rdB, regB] at h; omega⟩

set_option maxHeartbeats 4000000 in
theorem copy1_any (S : Nat → Int) (m : Mi) (B : Nat) (w : World) (hB : Box w B (cellsS S)) : Calls Try.prog 28 #[.agg (cellsM m), .pointer (some ⟨B, 0, none⟩)] w fun e w' =>
    e = .returned (.agg (cellsM (cpM S m))) ∧ Box w' B (cellsS (cpS S (cpM S m))) ∧ w.grownBy w' (some B) := by
  obtain ⟨r1, r2, r3, r4, r5, r6, r7, r8, r9⟩ := rowRules
  obtain ⟨s1, s2, s3, s4, s5, s6, s7, s8, s9, s10⟩ := irSizes
  obtain ⟨q1, q2, q3, q4, q5, q6⟩ := irWhole
  obtain ⟨p1, p2, p3, p4, p5, p6, p7⟩ := irParts
  obtain ⟨t1, t2, t3, t4, t5, t6, t7⟩ := irSets
  obtain ⟨y1, y2, y3, y4, y5, y6, y7, y8, y9⟩ := opSizes
  obtain ⟨k1, k2⟩ := rowSets
  obtain ⟨m1, hm1⟩ : ∃ m1 : Mi, m1 = { m with a := if rdA m then S m.a.toNat else m.a } := ⟨_, rfl⟩
  obtain ⟨m2, hm2⟩ : ∃ m2 : Mi, m2 = cpM S m := ⟨_, rfl⟩
  have hb1 : rdB m1 = rdB m := by rw [hm1]; rfl
  have hb2 : m1.b = m.b := by rw [hm1]
  have hm21 : m2 = { m1 with b := if rdB m then S m.b.toNat else m.b } := by rw [hm2, hm1]; rfl
  rw [← hm2]
  have h0 := hide (HeldC.new w B (cellsS S) m hB)
  have c1 := hide (readsA_any m)
  have c2 := hide (readsB_any m1)
  have c3 := hide (owrites_any m2)
  have c4 := hide (behS_any S m2)
  obtain ⟨S2, hS2⟩ : ∃ S2, S2 = cpS S m2 := ⟨_, rfl⟩
  rw [← hS2]
  rw [hb1] at c2
  replace hm1 := hide hm1
  replace hm21 := hide hm21
  replace hS2 := hide hS2
  clear hm2 hb1
  replace hb2 := hide hb2
  go_enter Try.func28, Try.ntmps28
  go_wp2_with fail
  generalize World.alloc (World.alloc w _) _ = Y0 at *
  refine (c1.out _).mono ?_
  rintro r Y1 ⟨rfl, hY1⟩
  have h1 := hide (h0.out.on hY1)
  clear h0 hY1 c1
  by_cases hA : rdA m = true
  case' pos =>
    obtain ⟨k, ek, hk⟩ := reg_of hA
    have em1 : m1 = { m with a := S k } := by rw [hm1.out, hA, ek]; rfl
    have x1 : Y1.cell? ⟨w.heap.size, 2, none⟩ = some (.int .i64 (k : Int)) := by rw [← ek]; exact (h1.out.2.1.cell 2).trans (p3 m)
    have x2 := h1.out.2.1.free 2
    have x3 : Y1.cell? ⟨B, k, none⟩ = some (.int .i64 (S k)) := (h1.out.1.cell k).trans (y9 S k hk)
    have h2 := h1.out.put 2 (.int .i64 (S k)) m1 (by rw [em1]; exact t3 m (S k))
    have l2 := h2.2.1.loads 0 N6 (q1 _) (q2 _)
    rw [hA]
    replace h2 := hide h2
    clear em1 h1 hm1 ek
    go_wp2_with fail
    generalize World.setCell Y1 _ _ = Y2 at *
    clear x1 x2 x3 l2
    clear Y1
  case' neg =>
    have hA' : rdA m = false := by simpa using hA
    have em1 : m1 = m := by rw [hm1.out, hA']; rfl
    have h2 := h1.out
    rw [← em1] at h2
    have l2 := h2.2.1.loads 0 N6 (q1 _) (q2 _)
    rw [hA']
    replace h2 := hide h2
    clear em1 h1 hm1
    go_wp2_with fail
    clear l2
  all_goals
    clear hA
    refine (c2.out _).mono ?_
    rintro r Y3 ⟨rfl, hY3⟩
    have h3 := hide (h2.out.on hY3)
    clear h2 hY3 c2
  all_goals
    by_cases hA : rdB m = true
    case' pos =>
      obtain ⟨k, ek, hk⟩ := reg_ofB hA
      have em1 : m2 = { m1 with b := S k } := by rw [hm21.out, hA, ek]; rfl
      have x1 : Y3.cell? ⟨w.heap.size, 3, none⟩ = some (.int .i64 (k : Int)) := by rw [← ek, ← hb2.out]; exact (h3.out.2.1.cell 3).trans (p4 m1)
      have x2 := h3.out.2.1.free 3
      have x3 : Y3.cell? ⟨B, k, none⟩ = some (.int .i64 (S k)) := (h3.out.1.cell k).trans (y9 S k hk)
      have h2 := h3.out.put 3 (.int .i64 (S k)) m2 (by rw [em1]; exact t4 m1 (S k))
      have l2 := h2.2.1.loads 0 N6 (q1 _) (q2 _)
      rw [hA]
      replace h2 := hide h2
      clear em1 h3 hm21 ek hb2
      go_wp2_with fail
      generalize World.setCell Y3 _ _ = Y4 at *
      clear x1 x2 x3 l2
      clear Y3
    case' neg =>
      have hA' : rdB m = false := by simpa using hA
      have em1 : m2 = m1 := by rw [hm21.out, hA', ← hb2.out]; rfl
      have h2 := h3.out
      rw [← em1] at h2
      have l2 := h2.2.1.loads 0 N6 (q1 _) (q2 _)
      rw [hA']
      replace h2 := hide h2
      clear em1 h3 hm21 hb2
      go_wp2_with fail
      clear l2
    all_goals
      clear hA
      refine (c3.out _).mono ?_
      rintro r Y5 ⟨rfl, hY5⟩
      have h5 := hide (h2.out.on hY5)
      clear h2 hY5 c3
      by_cases hW : wrB m2 = true
      · have es : S2 = srcB S m2 := by rw [hS2.out, cpS, hW]; rfl
        have x1 := h5.out.1.loads 0 NS (y6 _) (y7 _)
        have x2 := h5.out.2.1.loads 0 N6 (q1 _) (q2 _)
        have c5 := hide (c4.out hW)
        rw [← es] at c5
        rw [hW]
        clear c4 hS2 es hW
        go_wp2_with fail
        refine (c5.out _).mono ?_
        rintro r Y6 ⟨rfl, hY6⟩
        have h6 := h5.out.on hY6
        obtain ⟨b1, b2, b3⟩ := h6.1
        have h7 := h6.note (cellsS S2)
        have x3 := h7.2.1.loads 0 N6 (q1 _) (q2 _)
        obtain ⟨d1, d2, d3⟩ := h6.2.2.1
        have nB' : ¬ w.heap.size + 1 = B := by have := h6.2.2.2.1; omega
        have h8 := hide (h7.done (cellsM m2))
        have nB : ¬ B = w.heap.size + 1 := by have := h7.2.2.2.1; omega
        clear x1 x2 h5 hY6 h6 h7 c5
        go_wp2
        refine bodyPost_ret (v := .agg (cellsM m2)) (by simp [results, Try.results28, go_sem, *]) rfl ⟨rfl, ?_⟩
        exact h8.out
      · have hW' : wrB m2 = false := by simpa using hW
        have es : S2 = S := by rw [hS2.out, cpS, hW']; rfl
        have x3 := h5.out.2.1.loads 0 N6 (q1 _) (q2 _)
        obtain ⟨d1, d2, d3⟩ := h5.out.2.2.1
        have h8 := hide (h5.out.done (cellsM m2))
        subst es
        rw [hW']
        clear h5 c4 hS2
        go_wp2
        refine bodyPost_ret (v := .agg (cellsM m2)) (by simp [results, Try.results28, go_sem, *]) rfl ⟨rfl, ?_⟩
        exact h8.out

end Go.Proofs.Ytnbflahggpehpab.Ir
