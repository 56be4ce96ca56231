/- What any exception makes of the registers, and where it goes on, and the return, is as the document says. -/
import Derived.Test.YtjpfggffeffapaaCpRegsW
namespace Go.Proofs.Ytjpfggffeffapaa
open Go.RowKit
set_option linter.unusedVariables false

/-- An exception in block b. -/
def Xat (w : World) (b : Nat) (code : Int) (f d : Bool) (pc : Int) : Prop :=
  w.cell? ⟨b, 0, none⟩ = some (.int .i64 code) ∧ w.cell? ⟨b, 1, none⟩ = some (.bool f) ∧ w.cell? ⟨b, 2, none⟩ = some (.bool d) ∧ w.cell? ⟨b, 3, none⟩ = some (.int .u32 pc) ∧ b < w.heap.size

theorem Xat.on {w y : World} {b : Nat} {code : Int} {f d : Bool} {pc : Int} (e : Xat w b code f d pc) (hb : Below w.heap.size w y) : Xat y b code f d pc :=
  have c := fun o => (bcell hb).1 b o e.2.2.2.2
  ⟨by rw [c]; exact e.1, by rw [c]; exact e.2.1, by rw [c]; exact e.2.2.1, by rw [c]; exact e.2.2.2.1, Nat.lt_of_lt_of_le e.2.2.2.2 hb.size⟩

theorem Xat.new (w : World) (code : Int) (f d : Bool) (pc : Int) (t : TypeId) : Xat (w.alloc (.cells #[.int .i64 code, .bool f, .bool d, .int .u32 pc] t)) w.heap.size code f d pc :=
  ⟨by simp, by simp, by simp, by simp, by simp⟩

/-- The registers and the exception that came in, in the two blocks that are made first. -/
theorem start2 (w : World) (r : Regs) (code : Int) (f d : Bool) (pc : Int) (t u : TypeId) :
    Rat ((w.alloc (.cells (cellsR r) t)).alloc (.cells #[.int .i64 code, .bool f, .bool d, .int .u32 pc] u)) w.heap.size r ∧
    Xat ((w.alloc (.cells (cellsR r) t)).alloc (.cells #[.int .i64 code, .bool f, .bool d, .int .u32 pc] u)) (w.heap.size + 1) code f d pc ∧
    Below w.heap.size w ((w.alloc (.cells (cellsR r) t)).alloc (.cells #[.int .i64 code, .bool f, .bool d, .int .u32 pc] u)) := by
  refine ⟨(Rat.new w r t).on (grow _ _), ?_, onto (grow _ _) (Nat.le_refl _) (grow _ _)⟩
  have := Xat.new (w.alloc (.cells (cellsR r) t)) code f d pc u
  rwa [show (w.alloc (.cells (cellsR r) t)).heap.size = w.heap.size + 1 by simp] at this

/-- What the last region of SysRaises reads. -/
def Held4 (n : Nat) (w : World) (LA LB LD LE LC LX : Nat) (a d r : Regs) (code : Int) (f dl : Bool) (pc : Int) (x : World) : Prop :=
  Rat x LA a ∧ Rat x LB a ∧ Rat x LD d ∧ Rat x LE d ∧ Rat x LC r ∧ Xat x LX code f dl pc ∧ Below n w x

theorem held_on {n LA LB LD LE LC LX : Nat} {w x y : World} {a d r : Regs} {code : Int} {f dl : Bool} {pc : Int}
    (hS : Held4 n w LA LB LD LE LC LX a d r code f dl pc x) (hn : n ≤ w.heap.size) (hb : Below x.heap.size x y) :
    (loadCellsFrom ⟨LA, 0, none⟩ 0 N9 #[]).run Try.prog y = .ok (cellsR a) y ∧ (loadCellsFrom ⟨LB, 0, none⟩ 0 N9 #[]).run Try.prog y = .ok (cellsR a) y ∧
    (loadCellsFrom ⟨LD, 0, none⟩ 0 N9 #[]).run Try.prog y = .ok (cellsR d) y ∧ (loadCellsFrom ⟨LE, 0, none⟩ 0 N9 #[]).run Try.prog y = .ok (cellsR d) y ∧
    (loadCellsFrom ⟨LC, 0, none⟩ 0 N9 #[]).run Try.prog y = .ok (cellsR r) y ∧ y.cell? ⟨LX, 3, none⟩ = some (.int .u32 pc) ∧ y.cell? ⟨LX, 2, none⟩ = some (.bool dl) ∧
    Held4 n w LA LB LD LE LC LX a d r code f dl pc y := by
  obtain ⟨h1, h2, h3, h4, h5, h6, h7⟩ := hS
  exact ⟨(h1.on hb).load, (h2.on hb).load, (h3.on hb).load, (h4.on hb).load, (h5.on hb).load, (h6.on hb).2.2.2.1, (h6.on hb).2.2.1, h1.on hb, h2.on hb, h3.on hb, h4.on hb, h5.on hb, h6.on hb, onto h7 hn hb⟩

set_option maxHeartbeats 2000000 in
theorem raises_walk (w : World) (r : Regs) (hr : Wr r) (code : Int) (f d : Bool) (pc : Int) (hp : W32 pc) (wc : (Lit.int .i64 code).wf = true) :
    Calls Try.prog 4 #[.agg (cellsR r), .agg #[.int .i64 code, .bool f, .bool d, .int .u32 pc]] w fun e w' => e = .returned (.bool true) ∧ Below w.heap.size w w' := by
  obtain ⟨t1, t2, t3, t4, t5, t6, t7, t8, t9⟩ := cpRules
  have c1 := fun W => raise_any hr code f hp d W
  have c2 := fun W => rraise_any hr code f hp d W
  have c3 := fun W => ret_any hr W
  have c4 := fun W => rret_any hr W
  have c5 := fun W => bad_any hr hp d W
  have c6 := fun W => rbad_any hr hp d W
  generalize raiseV r code f pc d = A at *
  generalize toV r f = to at *
  generalize retV r = D at *
  generalize badV r pc d = Z at *
  have x1 := r.e
  obtain ⟨m, hm⟩ : ∃ m, r.e = m := ⟨_, rfl⟩
  rw [hm] at c3 c4
  clear wc hr hp hm x1
  replace c1 := hide c1
  replace c2 := hide c2
  replace c3 := hide c3
  replace c4 := hide c4
  go_enter Try.func4, Try.ntmps4
  obtain ⟨R, X, B⟩ := start2 w r code f d pc 24 30
  replace B := hide B
  go_wp2_with fail
  generalize (w.alloc (.cells (cellsR r) 24)).alloc (.cells #[.int .i64 code, .bool f, .bool d, .int .u32 pc] 30) = v0 at *
  generalize w.heap.size + 1 = LX at *
  refine (c1.out _).mono ?_
  rintro e w1 ⟨rfl, b1⟩
  have g1 := grow w1 (.cells (cellsR A) 24)
  replace R := (R.on b1).on g1
  replace X := (X.on b1).on g1
  replace B := hide (onto (onto B.out (Nat.le_refl _) b1) (Nat.le_refl _) g1)
  have RA := Rat.new w1 A 24
  have l1 := R.load
  obtain ⟨x0, x1, x2, x3, x4⟩ := id X
  clear b1 g1 x4
  clear v0
  go_wp2_with fail
  generalize w1.alloc (.cells (cellsR A) 24) = v1 at *
  generalize w1.heap.size = LA at *
  refine (c2.out _).mono ?_
  rintro e w2 ⟨rfl, b2⟩
  have g2 := grow w2 (.cells (cellsR A) 24)
  replace R := (R.on b2).on g2
  replace X := (X.on b2).on g2
  replace RA := (RA.on b2).on g2
  replace B := hide (onto (onto B.out (Nat.le_refl _) b2) (Nat.le_refl _) g2)
  have RB := Rat.new w2 A 24
  replace l1 := R.load
  clear b2 g2 x0 x1 x2 x3
  clear v1
  go_wp2_with fail
  generalize w2.alloc (.cells (cellsR A) 24) = v2 at *
  generalize w2.heap.size = LB at *
  refine (c3.out _).mono ?_
  rintro e w3 ⟨rfl, b3⟩
  have g3 := grow w3 (.cells (cellsR D) 24)
  replace R := (R.on b3).on g3
  replace X := (X.on b3).on g3
  replace RA := (RA.on b3).on g3
  replace RB := (RB.on b3).on g3
  replace B := hide (onto (onto B.out (Nat.le_refl _) b3) (Nat.le_refl _) g3)
  have RD := Rat.new w3 D 24
  replace l1 := R.load
  clear b3 g3
  clear v2
  go_wp2_with fail
  generalize w3.alloc (.cells (cellsR D) 24) = v3 at *
  generalize w3.heap.size = LD at *
  refine (c4.out _).mono ?_
  rintro e w4 ⟨rfl, b4⟩
  have g4 := grow w4 (.cells (cellsR D) 24)
  replace R := (R.on b4).on g4
  replace X := (X.on b4).on g4
  replace RA := (RA.on b4).on g4
  replace RB := (RB.on b4).on g4
  replace RD := (RD.on b4).on g4
  replace B := hide (onto (onto B.out (Nat.le_refl _) b4) (Nat.le_refl _) g4)
  have RE := Rat.new w4 D 24
  clear b4 g4 l1
  clear v3
  go_wp2_with fail
  have hS := held_on (n := w.heap.size) (w := w) ⟨RA, RB, RD, RE, R, X, B.out⟩ (Nat.le_refl _) (Below.refl _ (w4.alloc (.cells (cellsR D) 24))).drew
  clear RA RB RD RE R X B c1 c2 c3 c4 t2 t3 t4 t5 t6 t7 t8 t9
  generalize w4.alloc (.cells (cellsR D) 24) = v4 at *
  generalize w4.heap.size = LE at *
  have q1 := fun W => eq_self A W
  have q2 := fun W => eq_self D W
  have q3 := fun W => eq_self Z W
  go_region_held3 (fun y => (loadCellsFrom ⟨LA, 0, none⟩ 0 N9 #[]).run Try.prog y = .ok (cellsR A) y ∧ (loadCellsFrom ⟨LB, 0, none⟩ 0 N9 #[]).run Try.prog y = .ok (cellsR A) y ∧
    (loadCellsFrom ⟨LD, 0, none⟩ 0 N9 #[]).run Try.prog y = .ok (cellsR D) y ∧ (loadCellsFrom ⟨LE, 0, none⟩ 0 N9 #[]).run Try.prog y = .ok (cellsR D) y ∧
    (loadCellsFrom ⟨w.heap.size, 0, none⟩ 0 N9 #[]).run Try.prog y = .ok (cellsR r) y ∧ y.cell? ⟨LX, 3, none⟩ = some (.int .u32 pc) ∧ y.cell? ⟨LX, 2, none⟩ = some (.bool d) ∧
    Held4 w.heap.size w LA LB LD LE w.heap.size LX A D r code f d pc y)
    (first | exact hS | assumption)
    (first
      | (go_at_call 9; refine (fixed_any _).mono ?_; rintro e w' ⟨rfl, hn⟩; have hT := held_on (And.right (And.right (And.right (And.right (And.right (And.right (And.right (by assumption))))))))  (Nat.le_refl _) hn; clear hn)
      | (go_at_call 18; refine (c5 _).mono ?_; rintro e w' ⟨rfl, hn⟩; have hT := held_on (And.right (And.right (And.right (And.right (And.right (And.right (And.right (by assumption))))))))  (Nat.le_refl _) hn; clear hn)
      | (go_at_call 19; refine (c6 _).mono ?_; rintro e w' ⟨rfl, hn⟩; have hT := held_on (And.right (And.right (And.right (And.right (And.right (And.right (And.right (by assumption))))))))  (Nat.le_refl _) hn; clear hn))
  all_goals
    go_wp2
    go_ret
    exact ⟨rfl, hT.2.2.2.2.2.2.2.2.2.2.2.2.2⟩

end Go.Proofs.Ytjpfggffeffapaa
