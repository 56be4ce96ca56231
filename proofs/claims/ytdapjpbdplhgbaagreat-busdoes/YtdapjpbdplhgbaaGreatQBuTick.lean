/- Layer 12: the contract of Tick, the program's. -/
import Derived.Test.YtdapjpbdplhgbaaGreatQBuWalks3
namespace Go.Proofs.YtdapjpbdplhgbaaGreat
open Go.RowKit
set_option linter.unusedVariables false
set_option maxRecDepth 100000

/-- What a step makes of the devices, of memory and of its marks. -/
def tkV (n : Nat) (v : Dv) (B : Nat → Nat) : Dv := { v with t := Tm.tickV v.t, d := Dm.tickV v.d, k := Dm.moveT n (Dm.tickV v.d) (Dm.wayV v.d) v.k B }
def tkB (n : Nat) (v : Dv) (B : Nat → Nat) : Nat → Nat := Dm.moveB n (Dm.tickV v.d) (Dm.wayV v.d) v.k B
def tkD (n : Nat) (v : Dv) (D : Nat → Bool) : Nat → Bool := Dm.moveD n (Dm.tickV v.d) (Dm.wayV v.d) v.k D

theorem tmTick_w {t : Tm.Tm} (h : Tm.Wt t) : Tm.Wt (Tm.tickV t) := by
  have h1 := h.e
  have h2 := h.l
  unfold Tm.tickV
  repeat' split
  · exact h
  · exact ⟨h1, ⟨by have := h2.1; show 0 ≤ t.l - 1; omega, by have := h2.2; show t.l - 1 < 4294967296; omega⟩⟩
  · exact ⟨h1, h1⟩

theorem moveT_size (n : Nat) (d : Dm.Dm) (y : Int) (k : ByteArray) (B : Nat → Nat) (h : k.size = 1024) : (Dm.moveT n d y k B).size = 1024 := by
  unfold Dm.moveT
  split
  · exact textOf_size _ _
  · exact h

theorem tkV_w {n : Nat} {v : Dv} {B : Nat → Nat} (h : Wv v) : Wv (tkV n v B) := ⟨tmTick_w h.t, h.u, Dm.tick_w h.d, h.g, moveT_size _ _ _ _ _ h.k⟩

theorem move_0 (n : Nat) (d : Dm.Dm) (k : ByteArray) (B : Nat → Nat) (D : Nat → Bool) : Dm.moveT n d 0 k B = k ∧ Dm.moveB n d 0 k B = B ∧ Dm.moveD n d 0 k D = D := by
  unfold Dm.moveT Dm.moveB Dm.moveD
  exact ⟨if_neg (by rintro ⟨-, h⟩; cases h), if_neg (by rintro ⟨-, h⟩; cases h), if_neg (by rintro ⟨-, h⟩; cases h)⟩

theorem Kept.cell {l : List Nat} (x : World) (g o : Nat) (v : Value) (hg : g ∈ l) : Kept l x (x.setCell ⟨g, o, none⟩ v) :=
  ⟨rfl, rfl, rfl, by rw [World.size_setCell]; exact Nat.le_refl _, fun k hk hl => Below.heap_setCell x _ v k (by show k ≠ g; rintro rfl; exact hl hg)⟩

theorem Bus.setK {w : World} {b p g n c : Nat} {v : Dv} {B : Nat → Nat} {D : Nat → Bool} (h : Bus w b p g n c v B D) (s : ByteArray) (hq : Wv { v with k := s }) : Bus (w.setCell ⟨b, 15, none⟩ (.string s)) b p g n c { v with k := s } B D :=
  ⟨by rw [isRow_setCell]; exact h.row, by rw [rowAt_setCell, h.at']; rfl, by rw [World.size_setCell]; exact h.lt,
    h.m.kept (Kept.cell (l := [b]) w b 15 _ (by simp)) (by simpa using h.np.symm) (by simpa using h.ng.symm), hq, h.np, h.ng⟩

set_option maxHeartbeats 4000000 in
set_option maxRecDepth 100000 in
theorem tick_any {w : World} {b p g n c : Nat} {v : Dv} {B : Nat → Nat} {D : Nat → Bool} (hB : Bus w b p g n c v B D) :
    Calls Tryz.prog 8 #[.pointer (some ⟨b, 0, none⟩)] w fun e w' => e = .returned (.int .u32 (linesV (tkV n v B))) ∧ Bus w' b p g n c (tkV n v B) (tkB n v B) (tkD n v D) ∧ Kept [b, g] w w' := by
  obtain ⟨t1, t2, t3, t4, t5, t6, t7, t8, t9⟩ := rowRules
  obtain ⟨y1, y2⟩ := rowSets
  obtain ⟨z1, z2, z3, z4, z5, z6, z7, z8, z9, z10⟩ := sizeRules
  obtain ⟨c1, -, c3, -, c5, o1, -, o3, -, o5, n1, -, n3, -, n5⟩ := cellSizes
  obtain ⟨f1, -, f3, -, f5, q1, -, q3, -, q5, s1, -, s3, -, s5, g15, g16, h15⟩ := bParts
  have hw := hB.wv
  have ct := hide (Tm.tick_any hw.t)
  have cd := hide (Dm.tick_any hw.d)
  have hw1 : Wv { v with t := Tm.tickV v.t } := ⟨tmTick_w hw.t, hw.u, hw.d, hw.g, hw.k⟩
  have hw2 : Wv { v with t := Tm.tickV v.t, d := Dm.tickV v.d } := ⟨tmTick_w hw.t, hw.u, Dm.tick_w hw.d, hw.g, hw.k⟩
  have hw3 : Wv (tkV n v B) := tkV_w hw
  unfold tkV tkB tkD at *
  have hd2 := Dm.tick_w hw.d
  generalize Tm.tickV v.t = T at *
  generalize Dm.tickV v.d = Q at *
  generalize Dm.wayV v.d = y at *
  obtain ⟨r1, r2⟩ := And.intro hB.row hB.at'
  have hk := hw.k
  replace hw := hide hw
  replace hw1 := hide hw1
  replace hw2 := hide hw2
  replace hw3 := hide hw3
  replace hd2 := hide hd2
  replace hB := hide hB
  go_enter Tryz.func8, Tryz.ntmps8
  go_wp2_with fail
  refine (ct.out _).mono ?_
  rintro e w1 ⟨rfl, b1⟩
  have B1 := hB.out.on b1
  have K1 := hide (Kept.of (l := [b, g]) b1)
  clear ct r1 r2 hB b1
  obtain ⟨r1, r2⟩ := And.intro B1.row B1.at'
  replace B1 := hide B1
  go_wp2_with fail
  refine (cd.out _).mono ?_
  rintro e w2 ⟨rfl, b2⟩
  have B2 := (B1.out.set _ hw1.out).on b2
  replace K1 := hide ((K1.out.trans (Kept.set _ _ _ (by simp))).trans (Kept.of b2))
  clear cd r1 r2 B1 b2
  obtain ⟨r1, r2⟩ := And.intro B2.row B2.at'
  replace B2 := hide B2
  by_cases hy : y = 0
  · subst hy
    obtain ⟨e1, e2, e3⟩ := move_0 n Q v.k B D
    rw [e1] at hw3
    have ee := hide (And.intro e1 (And.intro e2 e3))
    clear e1 e2 e3
    go_wp2_with fail
    refine (lines_any _ _).mono ?_
    rintro e w3 ⟨rfl, b3⟩
    have B3 := (B2.out.set _ hw2.out).on b3
    replace K1 := hide ((K1.out.trans (Kept.set _ _ _ (by simp))).trans (Kept.of b3))
    replace B3 := hide B3
    clear B2 b3 r1 r2
    go_wp2
    go_ret
    rw [ee.out.1, ee.out.2.1, ee.out.2.2]
    exact ⟨rfl, B3.out, K1.out⟩
  · have hy' : (y == 0) = false := by simpa using hy
    clear hy
    have B3 := hide (B2.out.set _ hw2.out)
    replace K1 := hide (K1.out.trans (Kept.set w2 b (cellsB { v with t := T, d := Q } p) (by simp)))
    go_wp2_with fail
    clear r1 r2 B2
    generalize w2.setRow b (cellsB { v with t := T, d := Q } p) = w3 at *
    obtain ⟨r1, r2⟩ := And.intro B3.out.row B3.out.at'
    have g15' : w3.cell? ⟨b, 15, none⟩ = some (.string v.k) := B3.out.cell 15
    have g16' : w3.cell? ⟨b, 16, none⟩ = some (.pointer (some ⟨p, 0, none⟩)) := B3.out.cell 16
    have cm := hide (Dm.move_any (B3.out.drew).m Q hd2.out y v.k (by rw [hk]; decide))
    have hW := B3.out.wv
    clear g15 g16
    go_region_with (first
      | (go_at_call 27; refine (cm.out).mono ?_; rintro e w4 ⟨rfl, M4, G4⟩; have B4 := B3.out.drew.mem G4 M4; have r5 := B4.row; have r6 := B4.at'; have g4 : w4.cell? ⟨b, 15, none⟩ = some (.string v.k) := B4.cell 15; have f4 := B4.free 15))
    all_goals
      have B5 := B4.setK _ hw3.out
      have K5 := hide (((K1.out.trans (Kept.of (Below.refl _ w3).drew)).trans (Kept.grown (l := [b, g]) G4 (by simp))).trans (Kept.cell w4 b 15 (.string (Dm.moveT n Q y v.k B)) (by simp)))
      clear r1 r2 r5 r6 g4 f4 g15' g16' B4 M4 G4 B3 K1 cm hw hw1 hw2 hd2 hW h15
      generalize w4.setCell ⟨b, 15, none⟩ (.string (Dm.moveT n Q y v.k B)) = w5 at *
      obtain ⟨r1, r2⟩ := And.intro B5.row B5.at'
      replace B5 := hide B5
      go_wp2_with fail
      refine (lines_any _ _).mono ?_
      rintro e w6 ⟨rfl, b6⟩
      replace B5 := hide (B5.out.on b6)
      replace K5 := hide (K5.out.trans (Kept.of b6))
      clear r1 r2 b6
      go_wp2
      go_ret
      exact ⟨rfl, B5.out, K5.out⟩

end Go.Proofs.YtdapjpbdplhgbaaGreat
