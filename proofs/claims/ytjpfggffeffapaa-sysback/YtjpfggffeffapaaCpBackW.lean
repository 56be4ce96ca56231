/- What is written twice is written once; an exception, and the return from it, go on at its place, with all of Status as it was; within one another they keep the first place. -/
import Derived.Test.YtjpfggffeffapaaCpRaisesW
import Derived.Test.YtjpfggffeffapaaCpBackM
namespace Go.Proofs.Ytjpfggffeffapaa
open Go.RowKit
set_option linter.unusedVariables false

theorem Rat.put6 {w : World} {b : Nat} {r : Regs} (h : Rat w b r) (x : Int) : Rat (w.setCell ⟨b, 6, none⟩ (.int .u32 x)) b { r with s := x } :=
  ⟨by rw [isRow_setCell]; exact h.1, by rw [rowAt_setCell, h.2.1]; rfl, by simpa using h.2.2⟩

theorem Xat.far {w : World} {b : Nat} {code : Int} {f d : Bool} {pc : Int} (h : Xat w b code f d pc) (g j : Nat) (v : Value) (hg : g < b) : Xat (w.setCell ⟨g, j, none⟩ v) b code f d pc := by
  have c : ∀ o, (w.setCell ⟨g, j, none⟩ v).cell? ⟨b, o, none⟩ = w.cell? ⟨b, o, none⟩ := fun o => by
    rw [World.cell?_of_block (w := w) (Below.heap_setCell w ⟨g, j, none⟩ v b (by show b ≠ g; omega))]
  exact ⟨by rw [c]; exact h.1, by rw [c]; exact h.2.1, by rw [c]; exact h.2.2.1, by rw [c]; exact h.2.2.2.1, by simpa using h.2.2.2.2⟩

/-- What the first drawn region of SysBack reads. -/
def HeldB (n : Nat) (w : World) (LW LC LX : Nat) (q r : Regs) (code : Int) (f dl : Bool) (pc : Int) (x : World) : Prop :=
  Rat x LW q ∧ Rat x LC r ∧ Xat x LX code f dl pc ∧ Below n w x

theorem heldB_on {n LW LC LX : Nat} {w x y : World} {q r : Regs} {code : Int} {f dl : Bool} {pc : Int}
    (hS : HeldB n w LW LC LX q r code f dl pc x) (hn : n ≤ w.heap.size) (hb : Below x.heap.size x y) :
    (loadCellsFrom ⟨LW, 0, none⟩ 0 N9 #[]).run Try.prog y = .ok (cellsR q) y ∧ y.cell? ⟨LX, 3, none⟩ = some (.int .u32 pc) ∧ HeldB n w LW LC LX q r code f dl pc y := by
  obtain ⟨h1, h2, h3, h4⟩ := hS
  exact ⟨(h1.on hb).load, (h3.on hb).2.2.2.1, h1.on hb, h2.on hb, h3.on hb, onto h4 hn hb⟩

theorem ne_self (r : Regs) (w : World) : (binOp .neq 24 (.agg (cellsR r)) (.agg (cellsR r))).run Try.prog w = .ok (.bool false) w := by
  rw [neqR]; simp

set_option maxRecDepth 100000 in
set_option maxHeartbeats 4000000 in
theorem back_walk (w : World) (r : Regs) (hr : Wr r) (g : Int) (wg : (Lit.int .i64 g).wf = true) (code : Int) (f d : Bool) (pc : Int) (hp : W32 pc) (wc : (Lit.int .i64 code).wf = true) :
    Calls Try.prog 6 #[.agg (cellsR r), .int .i64 g, .agg #[.int .i64 code, .bool f, .bool d, .int .u32 pc]] w fun e w' => e = .returned (.bool true) ∧ Below w.heap.size w w' := by
  obtain ⟨t1, t2, t3, t4, t5, t6, t7, t8, t9⟩ := cpRules
  have c1 := hide fun W => write_any hr g hp W
  have cr := fun W => read_any (writeV r g pc) g W
  have cw : ∀ v, v = pc ∨ v = readV (writeV r g pc) g → ∀ W, Calls Try.prog 12 #[.agg (cellsR (writeV r g pc)), .int .i64 g, .int .u32 v] W fun e w' => e = .returned (.agg (cellsR (writeV r g pc))) ∧ Below W.heap.size W w' := by
    intro v hv W
    rcases hv with rfl | rfl
    · have := write_any (write_w hr g hp) g hp W
      rwa [write_twice] at this
    · have := write_any (write_w hr g hp) g (read_w (write_w hr g hp) g) W
      rwa [write_read hr g hp] at this
  have n1 := not_of hr.s k2
  obtain ⟨s0, hs0⟩ : ∃ s0 : Int, mixV r.s 0 2 = s0 := ⟨_, rfl⟩
  rw [hs0] at n1
  have hr' : Wr { r with s := s0 } := ⟨hr.i, hr.l, hr.b, hr.n, hr.h, hr.p, by rw [← hs0]; exact mix_w k2, hr.c, hr.e⟩
  have hz : bit s0 1 = false := by rw [← hs0]; exact cleared r.s
  obtain ⟨A, hA⟩ : ∃ A : Regs, raiseV { r with s := s0 } code f pc d = A := ⟨_, rfl⟩
  have hA' : Wr A := by rw [← hA]; exact raise_w hr' code f hp d
  have aF := raise_first (r := { r with s := s0 }) hz code f pc d
  have aR := raised (r := { r with s := s0 }) code f pc d
  rw [hA] at aF aR
  have c2 := fun W => raise_any hr' code f hp d W
  rw [hA] at c2
  obtain ⟨to, hto⟩ : ∃ to : Int, toV { r with s := s0 } f = to := ⟨_, rfl⟩
  rw [hto] at c2
  obtain ⟨B, hB⟩ : ∃ B : Regs, raiseV A code true 4096 (!d) = B := ⟨_, rfl⟩
  have h4096 : W32 4096 := w_of _ (by omega) (by omega)
  have hB' : Wr B := by rw [← hB]; exact raise_w hA' code true h4096 (!d)
  have bW := raise_within aR.2 code true 4096 (!d)
  have bR := raised (r := A) code true 4096 (!d)
  rw [hB] at bW bR
  have c3 := fun W => raise_any hA' code true h4096 (!d) W
  rw [hB, bW.2] at c3
  obtain ⟨E, hE⟩ : ∃ E : Int, wantV pc d = E := ⟨_, rfl⟩
  have bE : B.e = E := by rw [bW.1, aF.1, hE]
  have c4 := fun W => ret_any hB' W
  rw [bE] at c4
  have dS : (retV B).s = s0 := by
    show mixV B.s 0 2 = s0
    rw [bR.1, aR.1, mix_mix k2, mix_mix k2]
    show mixV s0 0 2 = s0
    rw [← hs0, mix_mix k2]
  have dC : (retV B).c = B.c := rfl
  obtain ⟨D, hD⟩ : ∃ D : Regs, retV B = D := ⟨_, rfl⟩
  rw [hD] at c4 dS dC
  obtain ⟨kb, hkb⟩ : ∃ kb : Int, B.c = kb := ⟨_, rfl⟩
  rw [hkb] at dC
  obtain ⟨ka, hka⟩ : ∃ ka : Int, A.c = ka := ⟨_, rfl⟩
  have aT : ka / 2147483648 = if d then 1 else 0 := by rw [← hka, aF.2.1]; exact delay_top _ d
  have c5 := fun W => pend_any hA' W
  have c6 := fun W => user_any hA' W
  rw [show pendV A = false by unfold pendV; rw [aR.2]; simp] at c5
  rw [show userV A = false by unfold userV; rw [aR.2]; simp] at c6
  have hne := fun W => ne_self (writeV r g pc) W
  generalize readV (writeV r g pc) g = rd at *
  generalize writeV r g pc = q at *
  clear wc wg hr hr' hz hA hA' aF aR hto hB hB' bW bR hD h4096 hs0
  obtain ⟨p0, p1⟩ := hp
  replace hE := hide hE
  replace aT := hide aT
  replace dS := hide dS
  replace dC := hide dC
  replace hkb := hide hkb
  replace hka := hide hka
  replace bE := hide bE
  replace c2 := hide c2
  replace c3 := hide c3
  replace c4 := hide c4
  replace c5 := hide c5
  replace c6 := hide c6
  go_enter Try.func6, Try.ntmps6
  obtain ⟨R, X, BB⟩ := start2 w r code f d pc 24 30
  replace BB := hide BB
  go_wp2_with fail
  generalize (w.alloc (.cells (cellsR r) 24)).alloc (.cells #[.int .i64 code, .bool f, .bool d, .int .u32 pc] 30) = v0 at *
  obtain ⟨LX, hLX⟩ : ∃ LX, LX = w.heap.size + 1 := ⟨_, rfl⟩
  rw [← hLX] at X ⊢
  replace hLX := hide hLX
  refine (c1.out _).mono ?_
  rintro e w1 ⟨rfl, b1⟩
  have g1 := grow w1 (.cells (cellsR q) 24)
  replace R := (R.on b1).on g1
  replace X := (X.on b1).on g1
  replace BB := hide (onto (onto BB.out (Nat.le_refl _) b1) (Nat.le_refl _) g1)
  have RW := Rat.new w1 q 24
  clear b1 g1
  clear v0
  go_wp2_with fail
  have hS := heldB_on (n := w.heap.size) (w := w) ⟨RW, R, X, BB.out⟩ (Nat.le_refl _) (Below.refl _ (w1.alloc (.cells (cellsR q) 24))).drew
  clear R X BB RW
  generalize w1.alloc (.cells (cellsR q) 24) = v1 at *
  generalize w1.heap.size = LW at *
  go_region_held3 (fun y => (loadCellsFrom ⟨LW, 0, none⟩ 0 N9 #[]).run Try.prog y = .ok (cellsR q) y ∧ y.cell? ⟨LX, 3, none⟩ = some (.int .u32 pc) ∧ HeldB w.heap.size w LW w.heap.size LX q r code f d pc y)
    (first | exact hS | assumption)
    (first
      | (go_at_call 12; refine (cw _ (by first | exact Or.inl rfl | exact Or.inr rfl) _).mono ?_; rintro e w' ⟨rfl, hn⟩; have hT := heldB_on (And.right (And.right (by assumption))) (Nat.le_refl _) hn; clear hn)
      | (go_at_call 10; refine (cr _).mono ?_; rintro e w' ⟨rfl, hn⟩; have hT := heldB_on (And.right (And.right (by assumption))) (Nat.le_refl _) hn; clear hn))
  obtain ⟨RW, R, X, BB⟩ := hT.2.2
  clear hS hT cw cr hne c1
  replace BB := hide BB
  have z1 : w'.cell? ⟨w.heap.size, 6, none⟩ = some (.int .u32 r.s) := R.cell 6
  have z2 := frozen_rowAt w' w.heap.size 6 R.1
  have ne1 : ¬ LX = w.heap.size := by have := hLX.out; omega
  have ne2 : ¬ w.heap.size = LX := by have := hLX.out; omega
  have lt1 : w.heap.size < LX := by have := hLX.out; omega
  replace R := R.put6 s0
  have Y := X.far w.heap.size 6 (.int .u32 s0) lt1
  replace BB := hide (BB.out.setCell (p := ⟨w.heap.size, 6, none⟩) (Nat.le_refl _) (.int .u32 s0))
  have l1 := R.load
  obtain ⟨x0, x1, x2, x3, x4⟩ := id X
  clear x4 X lt1
  replace Y := hide Y
  replace R := hide R
  clear RW
  go_wp2_with fail
  replace R := R.out
  replace X := Y.out
  clear Y z1 z2 ne1 ne2 x0 x1 x2 x3 l1 n1
  generalize w'.setCell ⟨w.heap.size, 6, none⟩ (.int .u32 s0) = v2 at *
  refine (c2.out _).mono ?_
  rintro e w3 ⟨rfl, b3⟩
  have g3 := grow w3 (.cells (cellsR A) 24)
  replace R := (R.on b3).on g3
  replace X := (X.on b3).on g3
  replace BB := hide (onto (onto BB.out (Nat.le_refl _) b3) (Nat.le_refl _) g3)
  have RA := Rat.new w3 A 24
  obtain ⟨x0, x1, x2, x3, x4⟩ := id X
  clear b3 g3 x1 x3 x4
  clear v2 c2
  go_wp2_with fail
  generalize w3.alloc (.cells (cellsR A) 24) = v3 at *
  generalize w3.heap.size = LA at *
  clear x0 x2
  refine (c3.out _).mono ?_
  rintro e w4 ⟨rfl, b4⟩
  have g4 := grow w4 (.cells (cellsR B) 24)
  replace R := (R.on b4).on g4
  replace X := (X.on b4).on g4
  replace RA := (RA.on b4).on g4
  replace BB := hide (onto (onto BB.out (Nat.le_refl _) b4) (Nat.le_refl _) g4)
  have RB := Rat.new w4 B 24
  clear b4 g4
  clear v3 c3
  go_wp2_with fail
  generalize w4.alloc (.cells (cellsR B) 24) = v4 at *
  generalize w4.heap.size = LB at *
  refine (c4.out _).mono ?_
  rintro e w5 ⟨rfl, b5⟩
  have g5 := grow w5 (.cells (cellsR D) 24)
  replace R := (R.on b5).on g5
  replace X := (X.on b5).on g5
  replace RA := (RA.on b5).on g5
  replace RB := (RB.on b5).on g5
  replace BB := hide (onto (onto BB.out (Nat.le_refl _) b5) (Nat.le_refl _) g5)
  have RD := Rat.new w5 D 24
  obtain ⟨x0, x1, x2, x3, x4⟩ := id X
  clear b5 g5 x0 x1 x4
  clear v4 c4
  have hE1 : d = false → pc = E := fun e => by have := hE.out; rw [e] at this; simpa [wantV] using this
  have hE2 : d = true → (pc - 4) % 4294967296 = E := fun e => by have := hE.out; rw [e] at this; simpa [wantV] using this
  have aT0 : d = false → ka / 2147483648 = 0 := fun e => by have := aT.out; rw [e] at this; simpa using this
  have aT1 : d = true → ka / 2147483648 = 1 := fun e => by have := aT.out; rw [e] at this; simpa using this
  clear hE aT
  cases d
  · have hE' := hE1 rfl
    have aT := aT0 rfl
    clear hE1 hE2 aT0 aT1
    subst hE'
    go_wp2_with fail
    generalize w5.alloc (.cells (cellsR D) 24) = v5 at *
    generalize w5.heap.size = LD at *
    clear x2 x3
    refine (fixed_any _).mono ?_
    rintro e w6 ⟨rfl, b6⟩
    replace R := R.on b6
    replace X := X.on b6
    replace RA := RA.on b6
    replace RB := RB.on b6
    replace RD := RD.on b6
    replace BB := hide (onto BB.out (Nat.le_refl _) b6)
    have y1 : w6.cell? ⟨LD, 6, none⟩ = some (.int .u32 s0) := by have : w6.cell? ⟨LD, 6, none⟩ = some (.int .u32 D.s) := RD.cell 6; rwa [dS.out] at this
    have y2 : w6.cell? ⟨w.heap.size, 6, none⟩ = some (.int .u32 s0) := R.cell 6
    have y3 : w6.cell? ⟨LB, 8, none⟩ = some (.int .u32 pc) := by have : w6.cell? ⟨LB, 8, none⟩ = some (.int .u32 B.e) := RB.cell 8; rwa [bE.out] at this
    have y4 : w6.cell? ⟨LD, 7, none⟩ = some (.int .u32 kb) := by have : w6.cell? ⟨LD, 7, none⟩ = some (.int .u32 D.c) := RD.cell 7; rwa [dC.out] at this
    have y5 : w6.cell? ⟨LB, 7, none⟩ = some (.int .u32 kb) := by have : w6.cell? ⟨LB, 7, none⟩ = some (.int .u32 B.c) := RB.cell 7; rwa [hkb.out] at this
    have y6 : w6.cell? ⟨LA, 7, none⟩ = some (.int .u32 ka) := by have : w6.cell? ⟨LA, 7, none⟩ = some (.int .u32 A.c) := RA.cell 7; rwa [hka.out] at this
    have y7 := X.2.2.1
    have l1 := RA.load
    clear b6 v5 R RB RD X dS bE dC hkb hka
    go_wp2_with fail
    clear y1 y2 y3 y4 y5 y6 y7
    refine (c5.out _).mono ?_
    rintro e w7 ⟨rfl, b7⟩
    replace RA := RA.on b7
    replace BB := hide (onto BB.out (Nat.le_refl _) b7)
    replace l1 := RA.load
    clear b7
    clear w6
    go_wp2_with fail
    refine (c6.out _).mono ?_
    rintro e w8 ⟨rfl, b8⟩
    replace BB := hide (onto BB.out (Nat.le_refl _) b8)
    clear b8 l1 RA
    go_wp2
    go_ret
    exact ⟨rfl, BB.out⟩
  · have hE' := hE2 rfl
    have aT := aT1 rfl
    clear hE1 hE2 aT0 aT1
    go_wp2_with fail
    generalize w5.alloc (.cells (cellsR D) 24) = v5 at *
    generalize w5.heap.size = LD at *
    clear x2 x3
    refine (fixed_any _).mono ?_
    rintro e w6 ⟨rfl, b6⟩
    replace R := R.on b6
    replace X := X.on b6
    replace RA := RA.on b6
    replace RB := RB.on b6
    replace RD := RD.on b6
    replace BB := hide (onto BB.out (Nat.le_refl _) b6)
    have y1 : w6.cell? ⟨LD, 6, none⟩ = some (.int .u32 s0) := by have : w6.cell? ⟨LD, 6, none⟩ = some (.int .u32 D.s) := RD.cell 6; rwa [dS.out] at this
    have y2 : w6.cell? ⟨w.heap.size, 6, none⟩ = some (.int .u32 s0) := R.cell 6
    have y3 : w6.cell? ⟨LB, 8, none⟩ = some (.int .u32 E) := by have : w6.cell? ⟨LB, 8, none⟩ = some (.int .u32 B.e) := RB.cell 8; rwa [bE.out] at this
    have y4 : w6.cell? ⟨LD, 7, none⟩ = some (.int .u32 kb) := by have : w6.cell? ⟨LD, 7, none⟩ = some (.int .u32 D.c) := RD.cell 7; rwa [dC.out] at this
    have y5 : w6.cell? ⟨LB, 7, none⟩ = some (.int .u32 kb) := by have : w6.cell? ⟨LB, 7, none⟩ = some (.int .u32 B.c) := RB.cell 7; rwa [hkb.out] at this
    have y6 : w6.cell? ⟨LA, 7, none⟩ = some (.int .u32 ka) := by have : w6.cell? ⟨LA, 7, none⟩ = some (.int .u32 A.c) := RA.cell 7; rwa [hka.out] at this
    have y7 := X.2.2.1
    have l1 := RA.load
    clear b6 v5 R RB RD X dS bE dC hkb hka
    go_wp2_with fail
    clear y1 y2 y3 y4 y5 y6 y7
    refine (c5.out _).mono ?_
    rintro e w7 ⟨rfl, b7⟩
    replace RA := RA.on b7
    replace BB := hide (onto BB.out (Nat.le_refl _) b7)
    replace l1 := RA.load
    clear b7
    clear w6
    go_wp2_with fail
    refine (c6.out _).mono ?_
    rintro e w8 ⟨rfl, b8⟩
    replace BB := hide (onto BB.out (Nat.le_refl _) b8)
    clear b8 l1 RA
    go_wp2
    go_ret
    exact ⟨rfl, BB.out⟩

end Go.Proofs.Ytjpfggffeffapaa
