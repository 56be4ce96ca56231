/- Layer 12: the contracts of Tick and Feed, the document's. -/
import Derived.Test.YtdapjpbdplhgbaaGreatQBuOps
import Derived.Test.YtdapjpbdplhgbaaGreatQDmRMove3
import Derived.RegionTactic
namespace Go.Proofs.YtdapjpbdplhgbaaGreat
open Go.RowKit
set_option linter.unusedVariables false
set_option maxRecDepth 100000

theorem RBus.setK' {w : World} {b p gb gd n : Nat} {v : Dv} {B : Nat → Nat} {D : Nat → Bool} (h : RBus w b p gb gd n v B D) (s : ByteArray) (hq : Wv { v with k := s }) : RBus (w.setCell ⟨b, 16, none⟩ (.string s)) b p gb gd n { v with k := s } B D :=
  ⟨by rw [isRow_setCell]; exact h.row, by rw [rowAt_setCell, h.at']; rfl, by rw [World.size_setCell]; exact h.lt,
    h.m.kept (Kept.cell (l := [b]) w b 16 _ (by simp)) (by simpa using h.np.symm) (by simpa using h.nb.symm) (by simpa using h.nd.symm), hq, h.np, h.nb, h.nd⟩

theorem lines_is (t d n : Bool) (z : Nat) : bitN t 1 + bitN (n && decide (¬ z = 0)) 2 + bitN d 4 = Tm.one t + (if n = true ∧ ¬ z = 0 then 2 else 0) + 4 * Tm.one d := by
  unfold bitN Tm.one
  cases t <;> cases d <;> cases n <;> by_cases h : z = 0 <;> simp [h]

theorem one_in (b : Bool) : 0 ≤ Tm.one b ∧ Tm.one b ≤ 1 := by cases b <;> decide

set_option maxHeartbeats 4000000 in
set_option maxRecDepth 100000 in
theorem rtick_any {w : World} {b p gb gd n : Nat} {v : Dv} {B : Nat → Nat} {D : Nat → Bool} (hB : RBus w b p gb gd n v B D) :
    Calls Tryz.prog 36 #[.pointer (some ⟨b, 0, none⟩)] w fun e w' => e = .returned (.int .u32 (linesV (tkV n v B))) ∧ RBus w' b p gb gd n (tkV n v B) (tkB n v B) (tkD n v D) ∧ Kept [b, p, gb, gd] w w' := by
  obtain ⟨t1, t2, t3, t4, t5, t6, t7, t8, t9⟩ := rowRules
  obtain ⟨y1, y2⟩ := rowSets
  obtain ⟨z1, z2, z3, z4, z5, z6, z7, z8, z9, z10⟩ := sizeRules
  obtain ⟨c1, -, c3, -, c5, o1, -, o3, -, o5, n1, -, n3, -, n5⟩ := cellSizes
  obtain ⟨-, -, -, -, -, -, a7, a8, a9, -, -, -, -, -, -⟩ := boxRules
  obtain ⟨f1, f2, f3, f4, p1, p2, p3, p4, s1, s2, s3, s4, -, -, -, -, -, -, -, -, -, -, -⟩ := mParts
  have hw := hB.wv
  have ct := hide (Tm.rtick_any hw.t)
  have cd := hide (Dm.rtick_any hw.d)
  have hw1 : Wv { v with t := Tm.tickV v.t } := ⟨tmTick_w hw.t, hw.u, hw.d, hw.g, hw.k⟩
  have hw2 : Wv { v with t := Tm.tickV v.t, d := Dm.tickV v.d } := ⟨tmTick_w hw.t, hw.u, Dm.tick_w hw.d, hw.g, hw.k⟩
  have hw3 : Wv (tkV n v B) := tkV_w hw
  have hlin : linesV (tkV n v B) = Tm.one (Tm.tickV v.t).r + (if v.u.n = true ∧ ¬ v.u.i.size = 0 then 2 else 0) + 4 * Tm.one (Dm.tickV v.d).r := lines_is _ _ _ _
  obtain ⟨L, hL⟩ : ∃ L, linesV (tkV n v B) = L := ⟨_, rfl⟩
  rw [hL]
  rw [hL] at hlin
  clear hL
  unfold tkV tkB tkD at *
  have hd2 := Dm.tick_w hw.d
  generalize Tm.tickV v.t = T at *
  generalize Dm.tickV v.d = Q at *
  generalize Dm.wayV v.d = y at *
  obtain ⟨r1, r2⟩ := And.intro hB.row hB.at'
  have hk := hw.k
  replace hw := hide hw
  replace hw1 := hide hw1
  replace hw2 := hide hw2
  replace hw3 := hide hw3
  replace hd2 := hide hd2
  replace hB := hide hB
  go_enter Tryz.func36, Tryz.ntmps36
  go_wp2_with fail
  refine (ct.out _).mono ?_
  rintro e w1 ⟨rfl, b1⟩
  have B1 := hB.out.on b1
  have K1 := hide (Kept.of (l := [b, p, gb, gd]) b1)
  clear ct r1 r2 hB b1
  obtain ⟨r1, r2⟩ := And.intro B1.row B1.at'
  replace B1 := hide B1
  go_wp2_with fail
  refine (cd.out _).mono ?_
  rintro e w2 ⟨rfl, b2⟩
  have B2 := (B1.out.set _ hw1.out).on b2
  replace K1 := hide ((K1.out.trans (Kept.set _ _ _ (by simp))).trans (Kept.of b2))
  clear cd r1 r2 B1 b2
  obtain ⟨r1, r2, r3⟩ := And.intro B2.row (And.intro B2.at' B2.lt)
  have r4 : ¬ b = w2.heap.size := by omega
  have X3 : Hid (RBus ((w2.setRow b (cellsM { v with t := T, d := Q } p)).alloc (.cells (Dm.cellsD Q) 42)) b p gb gd n { v with t := T, d := Q } B D ∧ Box ((w2.setRow b (cellsM { v with t := T, d := Q } p)).alloc (.cells (Dm.cellsD Q) 42)) w2.heap.size (Dm.cellsD Q)) := hide
    ⟨(B2.set _ hw2.out).on (grow _ _), by have := Box.new (w2.setRow b (cellsM { v with t := T, d := Q } p)) (Dm.cellsD Q) 42; rwa [setRow_size] at this⟩
  replace K1 := hide ((K1.out.trans (Kept.set w2 b (cellsM { v with t := T, d := Q } p) (by simp))).trans (Kept.of (grow _ (.cells (Dm.cellsD Q) 42))))
  replace B2 := hide B2
  go_wp2_with fail
  clear r1 r2 r3 r4 B2
  generalize hLd : w2.heap.size = Ld at *
  generalize (w2.setRow b (cellsM { v with t := T, d := Q } p)).alloc (.cells (Dm.cellsD Q) 42) = w3 at *
  clear hLd
  obtain ⟨r1, r2⟩ := And.intro X3.out.2.1 X3.out.2.2.1
  have g0 : w3.cell? ⟨b, 0, none⟩ = some (.pointer (some ⟨p, 0, none⟩)) := X3.out.1.cell 0
  have g16 : w3.cell? ⟨b, 16, none⟩ = some (.string v.k) := X3.out.1.cell 16
  have cm := hide (Dm.rmove_any (X3.out.1.drew).m Q hd2.out y v.k (by rw [hk]; decide))
  obtain ⟨u0, u1⟩ := one_in T.r
  obtain ⟨q0, q1⟩ := one_in Q.r
  replace hlin := hide hlin
  have cb1 := hide (fun x => Tm.rbit_any T.r x)
  have cb2 := hide (fun x => Tm.rbit_any Q.r x)
  generalize Tm.one T.r = oT at *
  generalize Tm.one Q.r = oQ at *
  go_region_with (first
    | (go_at_call 82; refine (cm.out).mono ?_; rintro e w4 ⟨rfl, M4, G4⟩; have B4 := X3.out.1.drew.mem G4 M4; have g4 : w4.cell? ⟨b, 16, none⟩ = some (.string v.k) := B4.cell 16; have fr4 := B4.free 16))
  all_goals
    have B5 := B4.setK' _ hw3.out
    have K5 := hide (((K1.out.trans (Kept.of (Below.refl _ w3).drew)).trans (Kept.rkept (l := [b, p, gb, gd]) G4 (by simp) (by simp) (by simp))).trans (Kept.cell w4 b 16 (.string (Dm.moveT n Q y v.k B)) (by simp)))
    clear r1 r2 g4 fr4 g16 g0 B4 M4 G4 X3 K1 cm hw hw1 hw2 hd2
    generalize w4.setCell ⟨b, 16, none⟩ (.string (Dm.moveT n Q y v.k B)) = w5 at *
    have m3 : w5.cell? ⟨b, 3, none⟩ = some (.bool T.r) := B5.cell 3
    have m6 : w5.cell? ⟨b, 6, none⟩ = some (.bool v.u.n) := B5.cell 6
    have m4 : w5.cell? ⟨b, 4, none⟩ = some (.string v.u.i) := B5.cell 4
    have m11 : w5.cell? ⟨b, 11, none⟩ = some (.bool Q.r) := B5.cell 11
    replace B5 := hide B5
    go_wp2_with fail
    refine (cb1.out _).mono ?_
    rintro e w6 ⟨rfl, rfl⟩
    have hem := Ua.empty_iff v.u.i
    obtain ⟨un, hun⟩ : ∃ un, v.u.n = un := ⟨_, rfl⟩
    rw [hun] at m6
    by_cases hz : v.u.i.size = 0
    · rw [decide_eq_true hz] at hem
      have hv : L = oT + 4 * oQ := by rw [hlin.out, if_neg (fun h => h.2 hz)]; omega
      replace hv := hide hv
      replace hz := hide hz
      cases un
      all_goals
        go_wp2_with fail
        refine (cb2.out _).mono ?_
        rintro e w7 ⟨rfl, rfl⟩
        go_wp2
        go_ret
        rw [hv.out]
        exact ⟨rfl, B5.out, K5.out⟩
    · rw [decide_eq_false hz] at hem
      cases un
      · have hv : L = oT + 4 * oQ := by rw [hlin.out, if_neg (fun h => by rw [hun] at h; cases h.1)]; omega
        replace hv := hide hv
        go_wp2_with fail
        refine (cb2.out _).mono ?_
        rintro e w7 ⟨rfl, rfl⟩
        go_wp2
        go_ret
        rw [hv.out]
        exact ⟨rfl, B5.out, K5.out⟩
      · have hv : L = oT + 2 + 4 * oQ := by rw [hlin.out, if_pos ⟨hun, hz⟩]
        replace hv := hide hv
        go_wp2_with fail
        refine (cb2.out _).mono ?_
        rintro e w7 ⟨rfl, rfl⟩
        go_wp2
        go_ret
        rw [hv.out]
        exact ⟨rfl, B5.out, K5.out⟩

end Go.Proofs.YtdapjpbdplhgbaaGreat
