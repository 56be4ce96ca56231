/- Layer 12: contracts of Store, Tick, Feed, the program's. -/
import Derived.Test.YtdapjpbdplhgbaaGreatQBuAll
import Derived.Test.YtdapjpbdplhgbaaGreatQDmThree
import Derived.Deep.RegionHeld3
import Derived.RegionTactic
namespace Go.Proofs.YtdapjpbdplhgbaaGreat
open Go.RowKit
set_option linter.unusedVariables false
set_option maxRecDepth 100000

theorem storeReg_no {w : World} {b : Nat} (a s m : Int) (a0 : 0 ≤ a) (h : ¬ (s = 4 ∧ a % 4 = 0)) :
    Calls Tryz.prog 23 #[.pointer (some ⟨b, 0, none⟩), .int .u32 a, .int .i64 s, .int .u32 m] w fun e w' => e = .returned (.int .i64 121) ∧ w' = w := by
  have c := hide (isWord_no a s a0 h)
  clear h
  go_enter Tryz.func23, Tryz.ntmps23
  go_wp2_with fail
  refine (c.out _).mono ?_
  rintro e w1 ⟨rfl, rfl⟩
  go_wp2
  go_ret
  exact ⟨rfl, rfl⟩

set_option maxHeartbeats 1000000 in
theorem storeReg_err {w : World} {b p g n c : Nat} {v : Dv} {B : Nat → Nat} {D : Nat → Bool} (hB : Bus w b p g n c v B D) (a m : Int) (a0 : 0 ≤ a) (h : a % 4 = 0) (E : Int) (Q : Dv) (hE : ¬ E = 0)
    (cr : ∀ x, Calls Tryz.prog 54 #[.agg (cellsV v), .int .u32 a, .int .u32 m] x fun e w' => e = .returned (.tuple #[.agg (cellsV Q), .int .i64 E]) ∧ Below x.heap.size x w') :
    Calls Tryz.prog 23 #[.pointer (some ⟨b, 0, none⟩), .int .u32 a, .int .i64 4, .int .u32 m] w fun e w' => e = .returned (.int .i64 121) ∧ Below w.heap.size w w' := by
  obtain ⟨t1, t2, t3, t4, t5, t6, t7, t8, t9⟩ := rowRules
  obtain ⟨-, -, -, -, z5, -, -, -, -, z10⟩ := sizeRules
  obtain ⟨-, -, -, -, c5, -, -, -, -, o5, -, -, -, -, n5⟩ := cellSizes
  obtain ⟨-, -, -, -, -, -, -, -, -, -, -, -, x1, x2, x3⟩ := boxRules
  obtain ⟨-, -, -, -, f5, -, -, -, -, q5, -, -, -, -, s5, -, -, -⟩ := bParts
  have cw := hide (isWord_yes a a0 h)
  have hE' : (E == 0) = false := by simpa using hE
  replace cr := hide cr
  obtain ⟨r1, r2⟩ := And.intro hB.row hB.at'
  clear hB hE h
  go_enter Tryz.func23, Tryz.ntmps23
  go_wp2_with fail
  refine (cw.out _).mono ?_
  rintro e w1 ⟨rfl, rfl⟩
  go_wp2_with fail
  refine (cr.out _).mono ?_
  rintro e w1 ⟨rfl, b1⟩
  clear cr cw r1 r2
  go_wp2
  go_ret
  exact ⟨rfl, b1.alloc b1.size _⟩

set_option maxHeartbeats 1000000 in
theorem storeReg_ok {w : World} {b p g n c : Nat} {v : Dv} {B : Nat → Nat} {D : Nat → Bool} (hB : Bus w b p g n c v B D) (a m : Int) (a0 : 0 ≤ a) (h : a % 4 = 0) (Q : Dv) (hQ : Wv Q)
    (cr : ∀ x, Calls Tryz.prog 54 #[.agg (cellsV v), .int .u32 a, .int .u32 m] x fun e w' => e = .returned (.tuple #[.agg (cellsV Q), .int .i64 0]) ∧ Below x.heap.size x w') :
    Calls Tryz.prog 23 #[.pointer (some ⟨b, 0, none⟩), .int .u32 a, .int .i64 4, .int .u32 m] w fun e w' => e = .returned (.int .i64 0) ∧ Bus w' b p g n c Q B D ∧ Kept [b] w w' := by
  obtain ⟨t1, t2, t3, t4, t5, t6, t7, t8, t9⟩ := rowRules
  obtain ⟨-, -, -, -, z5, -, -, -, -, z10⟩ := sizeRules
  obtain ⟨-, -, -, -, c5, -, -, -, -, o5, -, -, -, -, n5⟩ := cellSizes
  obtain ⟨-, -, -, -, -, -, -, -, -, -, -, -, x1, x2, x3⟩ := boxRules
  obtain ⟨-, -, -, -, f5, -, -, -, -, q5, -, -, -, -, s5, -, -, -⟩ := bParts
  have cw := hide (isWord_yes a a0 h)
  replace cr := hide cr
  obtain ⟨r1, r2⟩ := And.intro hB.row hB.at'
  replace hB := hide hB
  clear h
  go_enter Tryz.func23, Tryz.ntmps23
  go_wp2_with fail
  refine (cw.out _).mono ?_
  rintro e w1 ⟨rfl, rfl⟩
  go_wp2_with fail
  refine (cr.out _).mono ?_
  rintro e w1 ⟨rfl, b1⟩
  have B1 := hB.out.on b1
  have K1 := hide (Kept.of (l := [b]) b1)
  clear cr cw r1 r2 hB b1
  obtain ⟨r1, r2, r3⟩ := And.intro B1.row (And.intro B1.at' B1.lt)
  have r4 : ¬ b = w1.heap.size := by omega
  replace B1 := hide B1
  go_wp2
  go_ret
  refine ⟨rfl, ?_⟩
  exact ⟨(B1.out.set Q hQ).on (grow _ _), (K1.out.trans (Kept.set _ _ _ (by simp))).trans (Kept.of (grow _ _))⟩

theorem store_dev {w : World} {b : Nat} (a s m : Int) (h0 : 520093696 ≤ a) (h1 : a < 520094720) {R : Int → World → Prop}
    (c : Calls Tryz.prog 23 #[.pointer (some ⟨b, 0, none⟩), .int .u32 a, .int .i64 s, .int .u32 m] w fun e w' => ∃ E, e = .returned (.int .i64 E) ∧ R E w') :
    Calls Tryz.prog 7 #[.pointer (some ⟨b, 0, none⟩), .int .u32 a, .int .i64 s, .int .u32 m] w fun e w' => ∃ E, e = .returned (.int .i64 E) ∧ R E w' := by
  have cd := hide (isDev_yes a h0 h1)
  replace c := hide c
  clear h0 h1
  go_enter Tryz.func7, Tryz.ntmps7
  go_wp2_with fail
  refine (cd.out _).mono ?_
  rintro e w1 ⟨rfl, rfl⟩
  go_wp2_with fail
  refine c.out.mono ?_
  rintro e w1 ⟨E, rfl, hR⟩
  replace hR := hide hR
  go_wp2
  go_ret
  exact ⟨E, rfl, hR.out⟩

theorem store_mem {w : World} {b p g n c : Nat} {v : Dv} {B : Nat → Nat} {D : Nat → Bool} (hB : Bus w b p g n c v B D) (a s m : Int) (a0 : 0 ≤ a) (a1 : a < 4294967296) (h : a < 520093696 ∨ 520094720 ≤ a) (E : Int) {R : World → Prop}
    (cm : Calls Tryz.prog 24 #[.pointer (some ⟨p, 0, none⟩), .int .u32 a, .int .i64 s, .int .u32 m] w fun e w' => e = .returned (.int .i64 E) ∧ R w') :
    Calls Tryz.prog 7 #[.pointer (some ⟨b, 0, none⟩), .int .u32 a, .int .i64 s, .int .u32 m] w fun e w' => e = .returned (.int .i64 (if E = 0 then 0 else 121)) ∧ R w' := by
  have cd := hide (isDev_no a a0 a1 h)
  have m1 : w.cell? ⟨b, 16, none⟩ = some (.pointer (some ⟨p, 0, none⟩)) := hB.cell 16
  replace cm := hide cm
  clear h
  by_cases hE : E = 0
  · subst hE
    simp only [if_pos]
    go_enter Tryz.func7, Tryz.ntmps7
    go_wp2_with fail
    refine (cd.out _).mono ?_
    rintro e w1 ⟨rfl, rfl⟩
    go_wp2_with fail
    refine cm.out.mono ?_
    rintro e w1 ⟨rfl, hR⟩
    replace hR := hide hR
    go_wp2
    go_ret
    exact ⟨rfl, hR.out⟩
  · have hE' : (E == 0) = false := by simpa using hE
    simp only [if_neg hE]
    clear hE
    go_enter Tryz.func7, Tryz.ntmps7
    go_wp2_with fail
    refine (cd.out _).mono ?_
    rintro e w1 ⟨rfl, rfl⟩
    go_wp2_with fail
    refine cm.out.mono ?_
    rintro e w1 ⟨rfl, hR⟩
    replace hR := hide hR
    go_wp2
    go_ret
    exact ⟨rfl, hR.out⟩

def bitN (b : Bool) (n : Int) : Int := if b then n else 0

/-- The lines. -/
def linesV (v : Dv) : Int := bitN v.t.r 1 + bitN (v.u.n && decide (¬ v.u.i.size = 0)) 2 + bitN v.d.r 4

set_option maxHeartbeats 1000000 in
theorem lines_any (v : Dv) (w : World) :
    Calls Tryz.prog 28 #[.agg (cellsV v)] w fun e w' => e = .returned (.int .u32 (linesV v)) ∧ Below w.heap.size w w' := by
  obtain ⟨t1, t2, t3, t4, t5, t6, t7, t8, t9⟩ := rowRules
  obtain ⟨-, z2, -, -, z5, -, -, -, -, z10⟩ := sizeRules
  obtain ⟨-, c2, -, -, c5, -, -, -, -, o5, -, -, -, -, n5⟩ := cellSizes
  obtain ⟨f1, f2, f3, f4, q1, q2, q3, q4, s1, s2, s3, s4, g1, g2, -, -⟩ := vParts
  have c := hide (Ua.ring_any v.u)
  have V := Box.new w (cellsV v) 65
  have hv : linesV v = bitN v.t.r 1 + bitN (v.u.n && decide (¬ v.u.i.size = 0)) 2 + bitN v.d.r 4 := rfl
  rw [hv]
  clear hv
  generalize (v.u.n && decide (¬ v.u.i.size = 0)) = ru at *
  obtain ⟨rt, ht⟩ : ∃ rt, v.t.r = rt := ⟨_, rfl⟩
  obtain ⟨rd, hd⟩ : ∃ rd, v.d.r = rd := ⟨_, rfl⟩
  rw [ht, hd]
  have k2 : ∀ x : World, Box x w.heap.size (cellsV v) → x.cell? ⟨w.heap.size, 2, none⟩ = some (.bool rt) := fun x h => by rw [h.cell 2, g1, ht]
  have k10 : ∀ x : World, Box x w.heap.size (cellsV v) → x.cell? ⟨w.heap.size, 10, none⟩ = some (.bool rd) := fun x h => by rw [h.cell 10, g2, hd]
  replace k2 := hide k2
  replace k10 := hide k10
  have e2 := k2.out _ V
  clear g1 g2 ht hd
  have o1 : bits .or .u32 0 1 = 1 := by decide
  have o2 : bits .or .u32 0 2 = 2 := by decide
  have o3 : bits .or .u32 1 2 = 3 := by decide
  have o4 : bits .or .u32 0 4 = 4 := by decide
  have o5 : bits .or .u32 1 4 = 5 := by decide
  have o6 : bits .or .u32 2 4 = 6 := by decide
  have o7 : bits .or .u32 3 4 = 7 := by decide
  cases rt <;> cases ru <;> cases rd
  all_goals
    go_enter Tryz.func28, Tryz.ntmps28
    go_wp2_with fail
    refine (c.out _).mono ?_
    rintro e w1 ⟨rfl, b1⟩
    have e10 := k10.out _ (V.on b1)
    go_wp2
    go_ret
    exact ⟨rfl, onto (grow _ _) (Nat.le_refl _) b1⟩

end Go.Proofs.YtdapjpbdplhgbaaGreat
