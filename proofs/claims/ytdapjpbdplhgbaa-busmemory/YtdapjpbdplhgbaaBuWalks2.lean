/- Layer 12: contracts of Load, Store, Peek, the program's. -/
import Derived.Test.YtdapjpbdplhgbaaBuWalks
namespace Go.Proofs.Ytdapjpbdplhgbaa
open Go.RowKit
set_option linter.unusedVariables false
set_option maxRecDepth 100000

theorem loadReg_no {w : World} {b : Nat} (a s : Int) (a0 : 0 ≤ a) (h : ¬ (s = 4 ∧ a % 4 = 0)) :
    Calls Try.prog 48 #[.pointer (some ⟨b, 0, none⟩), .int .u32 a, .int .i64 s] w fun e w' => e = .returned (.tuple #[.int .u32 0, .int .i64 121]) ∧ w' = w := by
  have c := hide (isWord_no a s a0 h)
  clear h
  go_enter Try.func48, Try.ntmps48
  go_wp2_with fail
  refine (c.out _).mono ?_
  rintro e w1 ⟨rfl, rfl⟩
  go_wp2
  go_ret2
  exact ⟨rfl, rfl⟩

set_option maxHeartbeats 1000000 in
theorem loadReg_err {w : World} {b p g n c : Nat} {v : Dv} {B : Nat → Nat} {D : Nat → Bool} (hB : Bus w b p g n c v B D) (a : Int) (a0 : 0 ≤ a) (h : a % 4 = 0) (X E : Int) (Q : Dv) (hE : ¬ E = 0)
    (cr : ∀ x, Calls Try.prog 74 #[.agg (cellsV v), .int .u32 a] x fun e w' => e = .returned (.tuple #[.int .u32 X, .agg (cellsV Q), .int .i64 E]) ∧ Below x.heap.size x w') :
    Calls Try.prog 48 #[.pointer (some ⟨b, 0, none⟩), .int .u32 a, .int .i64 4] w fun e w' => e = .returned (.tuple #[.int .u32 0, .int .i64 121]) ∧ Below w.heap.size w w' := by
  obtain ⟨t1, t2, t3, t4, t5, t6, t7, t8, t9⟩ := rowRules
  obtain ⟨-, -, -, -, z5, -, -, -, -, z10⟩ := sizeRules
  obtain ⟨-, -, -, -, c5, -, -, -, -, o5, -, -, -, -, n5⟩ := cellSizes
  obtain ⟨-, -, -, -, -, -, -, -, -, -, -, -, x1, x2, x3⟩ := boxRules
  obtain ⟨-, -, -, -, f5, -, -, -, -, q5, -, -, -, -, s5, -, -, -⟩ := bParts
  have cw := hide (isWord_yes a a0 h)
  have hE' : (E == 0) = false := by simpa using hE
  replace cr := hide cr
  obtain ⟨r1, r2⟩ := And.intro hB.row hB.at'
  clear hB hE h
  go_enter Try.func48, Try.ntmps48
  go_wp2_with fail
  refine (cw.out _).mono ?_
  rintro e w1 ⟨rfl, rfl⟩
  go_wp2_with fail
  refine (cr.out _).mono ?_
  rintro e w1 ⟨rfl, b1⟩
  clear cr cw r1 r2
  go_wp2
  go_ret2
  exact ⟨rfl, b1.alloc b1.size _⟩

set_option maxHeartbeats 1000000 in
theorem loadReg_ok {w : World} {b p g n c : Nat} {v : Dv} {B : Nat → Nat} {D : Nat → Bool} (hB : Bus w b p g n c v B D) (a : Int) (a0 : 0 ≤ a) (h : a % 4 = 0) (X : Int) (Q : Dv) (hQ : Wv Q)
    (cr : ∀ x, Calls Try.prog 74 #[.agg (cellsV v), .int .u32 a] x fun e w' => e = .returned (.tuple #[.int .u32 X, .agg (cellsV Q), .int .i64 0]) ∧ Below x.heap.size x w') :
    Calls Try.prog 48 #[.pointer (some ⟨b, 0, none⟩), .int .u32 a, .int .i64 4] w fun e w' => e = .returned (.tuple #[.int .u32 X, .int .i64 0]) ∧ Bus w' b p g n c Q B D ∧ Kept [b] w w' := by
  obtain ⟨t1, t2, t3, t4, t5, t6, t7, t8, t9⟩ := rowRules
  obtain ⟨-, -, -, -, z5, -, -, -, -, z10⟩ := sizeRules
  obtain ⟨-, -, -, -, c5, -, -, -, -, o5, -, -, -, -, n5⟩ := cellSizes
  obtain ⟨-, -, -, -, -, -, -, -, -, -, -, -, x1, x2, x3⟩ := boxRules
  obtain ⟨-, -, -, -, f5, -, -, -, -, q5, -, -, -, -, s5, -, -, -⟩ := bParts
  have cw := hide (isWord_yes a a0 h)
  replace cr := hide cr
  obtain ⟨r1, r2⟩ := And.intro hB.row hB.at'
  replace hB := hide hB
  clear h
  go_enter Try.func48, Try.ntmps48
  go_wp2_with fail
  refine (cw.out _).mono ?_
  rintro e w1 ⟨rfl, rfl⟩
  go_wp2_with fail
  refine (cr.out _).mono ?_
  rintro e w1 ⟨rfl, b1⟩
  have B1 := hB.out.on b1
  have K1 := hide (Kept.of (l := [b]) b1)
  clear cr cw r1 r2 hB b1
  obtain ⟨r1, r2, r3⟩ := And.intro B1.row (And.intro B1.at' B1.lt)
  have r4 : ¬ b = w1.heap.size := by omega
  replace B1 := hide B1
  go_wp2
  go_ret2
  refine ⟨rfl, ?_⟩
  exact ⟨(B1.out.set Q hQ).on (grow _ _), (K1.out.trans (Kept.set _ _ _ (by simp))).trans (Kept.of (grow _ _))⟩

theorem load_dev {w : World} {b : Nat} (a s : Int) (h0 : 520093696 ≤ a) (h1 : a < 520094720) {R : Int → Int → World → Prop}
    (c : Calls Try.prog 48 #[.pointer (some ⟨b, 0, none⟩), .int .u32 a, .int .i64 s] w fun e w' => ∃ X E, e = .returned (.tuple #[.int .u32 X, .int .i64 E]) ∧ R X E w') :
    Calls Try.prog 22 #[.pointer (some ⟨b, 0, none⟩), .int .u32 a, .int .i64 s] w fun e w' => ∃ X E, e = .returned (.tuple #[.int .u32 X, .int .i64 E]) ∧ R X E w' := by
  have cd := hide (isDev_yes a h0 h1)
  replace c := hide c
  clear h0 h1
  go_enter Try.func22, Try.ntmps22
  go_wp2_with fail
  refine (cd.out _).mono ?_
  rintro e w1 ⟨rfl, rfl⟩
  go_wp2_with fail
  refine c.out.mono ?_
  rintro e w1 ⟨X, E, rfl, hR⟩
  replace hR := hide hR
  go_wp2
  go_ret2
  exact ⟨X, E, rfl, hR.out⟩

theorem load_mem {w : World} {b p g n c : Nat} {v : Dv} {B : Nat → Nat} {D : Nat → Bool} (hB : Bus w b p g n c v B D) (a s : Int) (a0 : 0 ≤ a) (a1 : a < 4294967296) (h : a < 520093696 ∨ 520094720 ≤ a) (X E : Int)
    (cm : Calls Try.prog 44 #[.pointer (some ⟨p, 0, none⟩), .int .u32 a, .int .i64 s] w fun e w' => e = .returned (.tuple #[.int .u32 X, .int .i64 E]) ∧ w' = w) :
    Calls Try.prog 22 #[.pointer (some ⟨b, 0, none⟩), .int .u32 a, .int .i64 s] w fun e w' => e = .returned (.tuple #[.int .u32 (if E = 0 then X else 0), .int .i64 (if E = 0 then 0 else 121)]) ∧ w' = w := by
  have cd := hide (isDev_no a a0 a1 h)
  have m1 : w.cell? ⟨b, 16, none⟩ = some (.pointer (some ⟨p, 0, none⟩)) := hB.cell 16
  replace cm := hide cm
  clear h
  by_cases hE : E = 0
  · subst hE
    simp only [if_pos]
    go_enter Try.func22, Try.ntmps22
    go_wp2_with fail
    refine (cd.out _).mono ?_
    rintro e w1 ⟨rfl, rfl⟩
    go_wp2_with fail
    refine cm.out.mono ?_
    rintro e w1 ⟨rfl, rfl⟩
    go_wp2
    go_ret2
    exact ⟨rfl, rfl⟩
  · have hE' : (E == 0) = false := by simpa using hE
    simp only [if_neg hE]
    clear hE
    go_enter Try.func22, Try.ntmps22
    go_wp2_with fail
    refine (cd.out _).mono ?_
    rintro e w1 ⟨rfl, rfl⟩
    go_wp2_with fail
    refine cm.out.mono ?_
    rintro e w1 ⟨rfl, rfl⟩
    go_wp2
    go_ret2
    exact ⟨rfl, rfl⟩

theorem peek_any {w : World} {b p g n c : Nat} {v : Dv} {B : Nat → Nat} {D : Nat → Bool} (hB : Bus w b p g n c v B D) (a X E : Int)
    (cm : Calls Try.prog 44 #[.pointer (some ⟨p, 0, none⟩), .int .u32 a, .int .i64 4] w fun e w' => e = .returned (.tuple #[.int .u32 X, .int .i64 E]) ∧ w' = w) :
    Calls Try.prog 20 #[.pointer (some ⟨b, 0, none⟩), .int .u32 a] w fun e w' => e = .returned (.tuple #[.int .u32 (if E = 0 then X else 0), .bool (decide (E = 0))]) ∧ w' = w := by
  have m1 : w.cell? ⟨b, 16, none⟩ = some (.pointer (some ⟨p, 0, none⟩)) := hB.cell 16
  replace cm := hide cm
  by_cases hE : E = 0
  · subst hE
    simp only [if_pos, decide_true]
    go_enter Try.func20, Try.ntmps20
    go_wp2_with fail
    refine cm.out.mono ?_
    rintro e w1 ⟨rfl, rfl⟩
    go_wp2
    go_ret2
    exact ⟨rfl, rfl⟩
  · have hE' : (E == 0) = false := by simpa using hE
    simp only [if_neg hE, decide_eq_false hE]
    clear hE
    go_enter Try.func20, Try.ntmps20
    go_wp2_with fail
    refine cm.out.mono ?_
    rintro e w1 ⟨rfl, rfl⟩
    go_wp2
    go_ret2
    exact ⟨rfl, rfl⟩

theorem memory_any {w : World} {b p g n c : Nat} {v : Dv} {B : Nat → Nat} {D : Nat → Bool} (hB : Bus w b p g n c v B D) :
    Calls Try.prog 15 #[.pointer (some ⟨b, 0, none⟩)] w fun e w' => e = .returned (.pointer (some ⟨p, 0, none⟩)) ∧ w' = w := by
  have m1 : w.cell? ⟨b, 16, none⟩ = some (.pointer (some ⟨p, 0, none⟩)) := hB.cell 16
  go_enter Try.func15, Try.ntmps15
  go_wp2
  go_ret
  exact ⟨rfl, rfl⟩

end Go.Proofs.Ytdapjpbdplhgbaa
