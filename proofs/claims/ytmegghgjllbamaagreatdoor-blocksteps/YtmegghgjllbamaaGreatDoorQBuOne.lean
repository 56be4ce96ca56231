/- Layer 12: contracts of Store, Tick, Feed, the program's. -/
import Derived.Test.YtmegghgjllbamaaGreatDoorQBuAll
import Derived.Test.YtmegghgjllbamaaGreatDoorQDmThree
import Derived.Deep.RegionHeld3
import Derived.RegionTactic
namespace Go.Proofs.YtmegghgjllbamaaGreatDoor
open Go.RowKit
set_option linter.unusedVariables false
set_option maxRecDepth 100000

theorem storeReg_no {w : World} {b : Nat} (a s m : Int) (a0 : 0 ≤ a) (h : ¬ (s = 4 ∧ a % 4 = 0)) :
    Calls Tryz.prog 15 #[.pointer (some ⟨b, 0, none⟩), .int .u32 a, .int .i64 s, .int .u32 m] w fun e w' => e = .returned (.int .i64 121) ∧ w' = w := by
  have c := hide (isWord_no a s a0 h)
  clear h
  go_enter Tryz.func15, Tryz.ntmps15
  go_wp2_with fail
  refine (c.out _).mono ?_
  rintro e w1 ⟨rfl, rfl⟩
  go_wp2
  go_ret
  exact ⟨rfl, rfl⟩

set_option maxHeartbeats 1000000 in
theorem storeReg_err {w : World} {b p g n c : Nat} {v : Dv} {B : Nat → Nat} {D : Nat → Bool} (hB : Bus w b p g n c v B D) (a m : Int) (a0 : 0 ≤ a) (h : a % 4 = 0) (E : Int) (Q : Dv) (hE : ¬ E = 0)
    (cr : ∀ x, Calls Tryz.prog 36 #[.agg (cellsV v), .int .u32 a, .int .u32 m] x fun e w' => e = .returned (.tuple #[.agg (cellsV Q), .int .i64 E]) ∧ Below x.heap.size x w') :
    Calls Tryz.prog 15 #[.pointer (some ⟨b, 0, none⟩), .int .u32 a, .int .i64 4, .int .u32 m] w fun e w' => e = .returned (.int .i64 121) ∧ Below w.heap.size w w' := by
  obtain ⟨t1, t2, t3, t4, t5, t6, t7, t8, t9⟩ := rowRules
  obtain ⟨-, -, -, -, z5, -, -, -, -, z10⟩ := sizeRules
  obtain ⟨-, -, -, -, c5, -, -, -, -, o5, -, -, -, -, n5⟩ := cellSizes
  obtain ⟨-, -, -, -, -, -, -, -, -, -, -, -, x1, x2, x3⟩ := boxRules
  obtain ⟨-, -, -, -, f5, -, -, -, -, q5, -, -, -, -, s5, -, -, -⟩ := bParts
  have cw := hide (isWord_yes a a0 h)
  have hE' : (E == 0) = false := by simpa using hE
  replace cr := hide cr
  obtain ⟨r1, r2⟩ := And.intro hB.row hB.at'
  clear hB hE h
  go_enter Tryz.func15, Tryz.ntmps15
  go_wp2_with fail
  refine (cw.out _).mono ?_
  rintro e w1 ⟨rfl, rfl⟩
  go_wp2_with fail
  refine (cr.out _).mono ?_
  rintro e w1 ⟨rfl, b1⟩
  clear cr cw r1 r2
  go_wp2
  go_ret
  exact ⟨rfl, b1.alloc b1.size _⟩

set_option maxHeartbeats 1000000 in
theorem storeReg_ok {w : World} {b p g n c : Nat} {v : Dv} {B : Nat → Nat} {D : Nat → Bool} (hB : Bus w b p g n c v B D) (a m : Int) (a0 : 0 ≤ a) (h : a % 4 = 0) (Q : Dv) (hQ : Wv Q)
    (cr : ∀ x, Calls Tryz.prog 36 #[.agg (cellsV v), .int .u32 a, .int .u32 m] x fun e w' => e = .returned (.tuple #[.agg (cellsV Q), .int .i64 0]) ∧ Below x.heap.size x w') :
    Calls Tryz.prog 15 #[.pointer (some ⟨b, 0, none⟩), .int .u32 a, .int .i64 4, .int .u32 m] w fun e w' => e = .returned (.int .i64 0) ∧ Bus w' b p g n c Q B D ∧ Kept [b] w w' := by
  obtain ⟨t1, t2, t3, t4, t5, t6, t7, t8, t9⟩ := rowRules
  obtain ⟨-, -, -, -, z5, -, -, -, -, z10⟩ := sizeRules
  obtain ⟨-, -, -, -, c5, -, -, -, -, o5, -, -, -, -, n5⟩ := cellSizes
  obtain ⟨-, -, -, -, -, -, -, -, -, -, -, -, x1, x2, x3⟩ := boxRules
  obtain ⟨-, -, -, -, f5, -, -, -, -, q5, -, -, -, -, s5, -, -, -⟩ := bParts
  have cw := hide (isWord_yes a a0 h)
  replace cr := hide cr
  obtain ⟨r1, r2⟩ := And.intro hB.row hB.at'
  replace hB := hide hB
  clear h
  go_enter Tryz.func15, Tryz.ntmps15
  go_wp2_with fail
  refine (cw.out _).mono ?_
  rintro e w1 ⟨rfl, rfl⟩
  go_wp2_with fail
  refine (cr.out _).mono ?_
  rintro e w1 ⟨rfl, b1⟩
  have B1 := hB.out.on b1
  have K1 := hide (Kept.of (l := [b]) b1)
  clear cr cw r1 r2 hB b1
  obtain ⟨r1, r2, r3⟩ := And.intro B1.row (And.intro B1.at' B1.lt)
  have r4 : ¬ b = w1.heap.size := by omega
  replace B1 := hide B1
  go_wp2
  go_ret
  refine ⟨rfl, ?_⟩
  exact ⟨(B1.out.set Q hQ).on (grow _ _), (K1.out.trans (Kept.set _ _ _ (by simp))).trans (Kept.of (grow _ _))⟩

theorem store_dev {w : World} {b : Nat} (a s m : Int) (h0 : 520093696 ≤ a) (h1 : a < 520094720) {R : Int → World → Prop}
    (c : Calls Tryz.prog 15 #[.pointer (some ⟨b, 0, none⟩), .int .u32 a, .int .i64 s, .int .u32 m] w fun e w' => ∃ E, e = .returned (.int .i64 E) ∧ R E w') :
    Calls Tryz.prog 5 #[.pointer (some ⟨b, 0, none⟩), .int .u32 a, .int .i64 s, .int .u32 m] w fun e w' => ∃ E, e = .returned (.int .i64 E) ∧ R E w' := by
  have cd := hide (isDev_yes a h0 h1)
  replace c := hide c
  clear h0 h1
  go_enter Tryz.func5, Tryz.ntmps5
  go_wp2_with fail
  refine (cd.out _).mono ?_
  rintro e w1 ⟨rfl, rfl⟩
  go_wp2_with fail
  refine c.out.mono ?_
  rintro e w1 ⟨E, rfl, hR⟩
  replace hR := hide hR
  go_wp2
  go_ret
  exact ⟨E, rfl, hR.out⟩

theorem store_mem {w : World} {b p g n c : Nat} {v : Dv} {B : Nat → Nat} {D : Nat → Bool} (hB : Bus w b p g n c v B D) (a s m : Int) (a0 : 0 ≤ a) (a1 : a < 4294967296) (h : a < 520093696 ∨ 520094720 ≤ a) (E : Int) {R : World → Prop}
    (cm : Calls Tryz.prog 16 #[.pointer (some ⟨p, 0, none⟩), .int .u32 a, .int .i64 s, .int .u32 m] w fun e w' => e = .returned (.int .i64 E) ∧ R w') :
    Calls Tryz.prog 5 #[.pointer (some ⟨b, 0, none⟩), .int .u32 a, .int .i64 s, .int .u32 m] w fun e w' => e = .returned (.int .i64 (if E = 0 then 0 else 121)) ∧ R w' := by
  have cd := hide (isDev_no a a0 a1 h)
  have m1 : w.cell? ⟨b, 16, none⟩ = some (.pointer (some ⟨p, 0, none⟩)) := hB.cell 16
  replace cm := hide cm
  clear h
  by_cases hE : E = 0
  · subst hE
    simp only [if_pos]
    go_enter Tryz.func5, Tryz.ntmps5
    go_wp2_with fail
    refine (cd.out _).mono ?_
    rintro e w1 ⟨rfl, rfl⟩
    go_wp2_with fail
    refine cm.out.mono ?_
    rintro e w1 ⟨rfl, hR⟩
    replace hR := hide hR
    go_wp2
    go_ret
    exact ⟨rfl, hR.out⟩
  · have hE' : (E == 0) = false := by simpa using hE
    simp only [if_neg hE]
    clear hE
    go_enter Tryz.func5, Tryz.ntmps5
    go_wp2_with fail
    refine (cd.out _).mono ?_
    rintro e w1 ⟨rfl, rfl⟩
    go_wp2_with fail
    refine cm.out.mono ?_
    rintro e w1 ⟨rfl, hR⟩
    replace hR := hide hR
    go_wp2
    go_ret
    exact ⟨rfl, hR.out⟩

def bitN (b : Bool) (n : Int) : Int := if b then n else 0

/-- The lines. -/
def linesV (v : Dv) : Int := bitN v.t.r 1 + bitN (v.u.n && decide (¬ v.u.i.size = 0)) 2 + bitN v.d.r 4

set_option maxHeartbeats 1000000 in
theorem lines_any (v : Dv) (w : World) :
    Calls Tryz.prog 50 #[.agg (cellsV v)] w fun e w' => e = .returned (.int .u32 (linesV v)) ∧ Below w.heap.size w w' := by
  obtain ⟨t1, t2, t3, t4, t5, t6, t7, t8, t9⟩ := rowRules
  obtain ⟨-, z2, -, -, z5, -, -, -, -, z10⟩ := sizeRules
  obtain ⟨-, c2, -, -, c5, -, -, -, -, o5, -, -, -, -, n5⟩ := cellSizes
  obtain ⟨f1, f2, f3, f4, q1, q2, q3, q4, s1, s2, s3, s4, g1, g2, -, -⟩ := vParts
  have c := hide (Ua.ring_any v.u)
  have V := Box.new w (cellsV v) 61
  have hv : linesV v = bitN v.t.r 1 + bitN (v.u.n && decide (¬ v.u.i.size = 0)) 2 + bitN v.d.r 4 := rfl
  rw [hv]
  clear hv
  generalize (v.u.n && decide (¬ v.u.i.size = 0)) = ru at *
  obtain ⟨rt, ht⟩ : ∃ rt, v.t.r = rt := ⟨_, rfl⟩
  obtain ⟨rd, hd⟩ : ∃ rd, v.d.r = rd := ⟨_, rfl⟩
  rw [ht, hd]
  have k2 : ∀ x : World, Box x w.heap.size (cellsV v) → x.cell? ⟨w.heap.size, 2, none⟩ = some (.bool rt) := fun x h => by rw [h.cell 2, g1, ht]
  have k10 : ∀ x : World, Box x w.heap.size (cellsV v) → x.cell? ⟨w.heap.size, 10, none⟩ = some (.bool rd) := fun x h => by rw [h.cell 10, g2, hd]
  replace k2 := hide k2
  replace k10 := hide k10
  have e2 := k2.out _ V
  clear g1 g2 ht hd
  have o1 : bits .or .u32 0 1 = 1 := by decide
  have o2 : bits .or .u32 0 2 = 2 := by decide
  have o3 : bits .or .u32 1 2 = 3 := by decide
  have o4 : bits .or .u32 0 4 = 4 := by decide
  have o5 : bits .or .u32 1 4 = 5 := by decide
  have o6 : bits .or .u32 2 4 = 6 := by decide
  have o7 : bits .or .u32 3 4 = 7 := by decide
  cases rt <;> cases ru <;> cases rd
  all_goals
    go_enter Tryz.func50, Tryz.ntmps50
    go_wp2_with fail
    refine (c.out _).mono ?_
    rintro e w1 ⟨rfl, b1⟩
    have e10 := k10.out _ (V.on b1)
    go_wp2
    go_ret
    exact ⟨rfl, onto (grow _ _) (Nat.le_refl _) b1⟩

end Go.Proofs.YtmegghgjllbamaaGreatDoor

/- Layer 12: contracts of Feed and Tick, the program's. -/
namespace Go.Proofs.YtmegghgjllbamaaGreatDoor
open Go.RowKit
set_option linter.unusedVariables false
set_option maxRecDepth 100000

/-- An event: At, Kind, V. -/
def cellsE (x k n : Int) : Array Value := #[.int .i64 x, .int .i64 k, .int .u32 n]

def N3e : Nat := 3

/-- What an event makes of the devices. -/
def feedV (v : Dv) (k n : Int) : Dv := if k = 0 then { v with u := Ua.feedV v.u (n % 256) } else if k = 1 then { v with g := stirG v.g n } else v

theorem feed_u {u : Ua.Ua} (h : Ua.Fits u) (c : Int) : Ua.Fits (Ua.feedV u c) := by
  unfold Ua.feedV
  split
  · exact ⟨by show (u.i ++ Ua.byteT c).size ≤ 16; rw [ByteArray.size_append, Ua.byteT_size]; omega, h.o⟩
  · exact h

end Go.Proofs.YtmegghgjllbamaaGreatDoor

/- Layer 12: the contract of Tick, the program's. -/
namespace Go.Proofs.YtmegghgjllbamaaGreatDoor
open Go.RowKit
set_option linter.unusedVariables false
set_option maxRecDepth 100000

/-- What a step makes of the devices, of memory and of its marks. -/
def tkV (n : Nat) (v : Dv) (B : Nat → Nat) : Dv := { v with t := Tm.tickV v.t, d := Dm.tickV v.d, k := Dm.moveT n (Dm.tickV v.d) (Dm.wayV v.d) v.k B }
def tkB (n : Nat) (v : Dv) (B : Nat → Nat) : Nat → Nat := Dm.moveB n (Dm.tickV v.d) (Dm.wayV v.d) v.k B
def tkD (n : Nat) (v : Dv) (D : Nat → Bool) : Nat → Bool := Dm.moveD n (Dm.tickV v.d) (Dm.wayV v.d) v.k D

theorem tmTick_w {t : Tm.Tm} (h : Tm.Wt t) : Tm.Wt (Tm.tickV t) := by
  have h1 := h.e
  have h2 := h.l
  unfold Tm.tickV
  repeat' split
  · exact h
  · exact ⟨h1, ⟨by have := h2.1; show 0 ≤ t.l - 1; omega, by have := h2.2; show t.l - 1 < 4294967296; omega⟩⟩
  · exact ⟨h1, h1⟩

theorem moveT_size (n : Nat) (d : Dm.Dm) (y : Int) (k : ByteArray) (B : Nat → Nat) (h : k.size = 1024) : (Dm.moveT n d y k B).size = 1024 := by
  unfold Dm.moveT
  split
  · exact textOf_size _ _
  · exact h

theorem tkV_w {n : Nat} {v : Dv} {B : Nat → Nat} (h : Wv v) : Wv (tkV n v B) := ⟨tmTick_w h.t, h.u, Dm.tick_w h.d, h.g, moveT_size _ _ _ _ _ h.k⟩

theorem move_0 (n : Nat) (d : Dm.Dm) (k : ByteArray) (B : Nat → Nat) (D : Nat → Bool) : Dm.moveT n d 0 k B = k ∧ Dm.moveB n d 0 k B = B ∧ Dm.moveD n d 0 k D = D := by
  unfold Dm.moveT Dm.moveB Dm.moveD
  exact ⟨if_neg (by rintro ⟨-, h⟩; cases h), if_neg (by rintro ⟨-, h⟩; cases h), if_neg (by rintro ⟨-, h⟩; cases h)⟩

theorem Kept.cell {l : List Nat} (x : World) (g o : Nat) (v : Value) (hg : g ∈ l) : Kept l x (x.setCell ⟨g, o, none⟩ v) :=
  ⟨rfl, rfl, rfl, by rw [World.size_setCell]; exact Nat.le_refl _, fun k hk hl => Below.heap_setCell x _ v k (by show k ≠ g; rintro rfl; exact hl hg)⟩

theorem Bus.setK {w : World} {b p g n c : Nat} {v : Dv} {B : Nat → Nat} {D : Nat → Bool} (h : Bus w b p g n c v B D) (s : ByteArray) (hq : Wv { v with k := s }) : Bus (w.setCell ⟨b, 15, none⟩ (.string s)) b p g n c { v with k := s } B D :=
  ⟨by rw [isRow_setCell]; exact h.row, by rw [rowAt_setCell, h.at']; rfl, by rw [World.size_setCell]; exact h.lt,
    h.m.kept (Kept.cell (l := [b]) w b 15 _ (by simp)) (by simpa using h.np.symm) (by simpa using h.ng.symm), hq, h.np, h.ng⟩

set_option maxHeartbeats 4000000 in
set_option maxRecDepth 100000 in
theorem tick_any {w : World} {b p g n c : Nat} {v : Dv} {B : Nat → Nat} {D : Nat → Bool} (hB : Bus w b p g n c v B D) :
    Calls Tryz.prog 22 #[.pointer (some ⟨b, 0, none⟩)] w fun e w' => e = .returned (.int .u32 (linesV (tkV n v B))) ∧ Bus w' b p g n c (tkV n v B) (tkB n v B) (tkD n v D) ∧ Kept [b, g] w w' := by
  obtain ⟨t1, t2, t3, t4, t5, t6, t7, t8, t9⟩ := rowRules
  obtain ⟨y1, y2⟩ := rowSets
  obtain ⟨z1, z2, z3, z4, z5, z6, z7, z8, z9, z10⟩ := sizeRules
  obtain ⟨c1, -, c3, -, c5, o1, -, o3, -, o5, n1, -, n3, -, n5⟩ := cellSizes
  obtain ⟨f1, -, f3, -, f5, q1, -, q3, -, q5, s1, -, s3, -, s5, g15, g16, h15⟩ := bParts
  have hw := hB.wv
  have ct := hide (Tm.tick_any hw.t)
  have cd := hide (Dm.tick_any hw.d)
  have hw1 : Wv { v with t := Tm.tickV v.t } := ⟨tmTick_w hw.t, hw.u, hw.d, hw.g, hw.k⟩
  have hw2 : Wv { v with t := Tm.tickV v.t, d := Dm.tickV v.d } := ⟨tmTick_w hw.t, hw.u, Dm.tick_w hw.d, hw.g, hw.k⟩
  have hw3 : Wv (tkV n v B) := tkV_w hw
  unfold tkV tkB tkD at *
  have hd2 := Dm.tick_w hw.d
  generalize Tm.tickV v.t = T at *
  generalize Dm.tickV v.d = Q at *
  generalize Dm.wayV v.d = y at *
  obtain ⟨r1, r2⟩ := And.intro hB.row hB.at'
  have hk := hw.k
  replace hw := hide hw
  replace hw1 := hide hw1
  replace hw2 := hide hw2
  replace hw3 := hide hw3
  replace hd2 := hide hd2
  replace hB := hide hB
  go_enter Tryz.func22, Tryz.ntmps22
  go_wp2_with fail
  refine (ct.out _).mono ?_
  rintro e w1 ⟨rfl, b1⟩
  have B1 := hB.out.on b1
  have K1 := hide (Kept.of (l := [b, g]) b1)
  clear ct r1 r2 hB b1
  obtain ⟨r1, r2⟩ := And.intro B1.row B1.at'
  replace B1 := hide B1
  go_wp2_with fail
  refine (cd.out _).mono ?_
  rintro e w2 ⟨rfl, b2⟩
  have B2 := (B1.out.set _ hw1.out).on b2
  replace K1 := hide ((K1.out.trans (Kept.set _ _ _ (by simp))).trans (Kept.of b2))
  clear cd r1 r2 B1 b2
  obtain ⟨r1, r2⟩ := And.intro B2.row B2.at'
  replace B2 := hide B2
  by_cases hy : y = 0
  · subst hy
    obtain ⟨e1, e2, e3⟩ := move_0 n Q v.k B D
    rw [e1] at hw3
    have ee := hide (And.intro e1 (And.intro e2 e3))
    clear e1 e2 e3
    go_wp2_with fail
    refine (lines_any _ _).mono ?_
    rintro e w3 ⟨rfl, b3⟩
    have B3 := (B2.out.set _ hw2.out).on b3
    replace K1 := hide ((K1.out.trans (Kept.set _ _ _ (by simp))).trans (Kept.of b3))
    replace B3 := hide B3
    clear B2 b3 r1 r2
    go_wp2
    go_ret
    rw [ee.out.1, ee.out.2.1, ee.out.2.2]
    exact ⟨rfl, B3.out, K1.out⟩
  · have hy' : (y == 0) = false := by simpa using hy
    clear hy
    have B3 := hide (B2.out.set _ hw2.out)
    replace K1 := hide (K1.out.trans (Kept.set w2 b (cellsB { v with t := T, d := Q } p) (by simp)))
    go_wp2_with fail
    clear r1 r2 B2
    generalize w2.setRow b (cellsB { v with t := T, d := Q } p) = w3 at *
    obtain ⟨r1, r2⟩ := And.intro B3.out.row B3.out.at'
    have g15' : w3.cell? ⟨b, 15, none⟩ = some (.string v.k) := B3.out.cell 15
    have g16' : w3.cell? ⟨b, 16, none⟩ = some (.pointer (some ⟨p, 0, none⟩)) := B3.out.cell 16
    have cm := hide (Dm.move_any (B3.out.drew).m Q hd2.out y v.k (by rw [hk]; decide))
    have hW := B3.out.wv
    clear g15 g16
    go_region_with (first
      | (go_at_call 49; refine (cm.out).mono ?_; rintro e w4 ⟨rfl, M4, G4⟩; have B4 := B3.out.drew.mem G4 M4; have r5 := B4.row; have r6 := B4.at'; have g4 : w4.cell? ⟨b, 15, none⟩ = some (.string v.k) := B4.cell 15; have f4 := B4.free 15))
    all_goals
      have B5 := B4.setK _ hw3.out
      have K5 := hide (((K1.out.trans (Kept.of (Below.refl _ w3).drew)).trans (Kept.grown (l := [b, g]) G4 (by simp))).trans (Kept.cell w4 b 15 (.string (Dm.moveT n Q y v.k B)) (by simp)))
      clear r1 r2 r5 r6 g4 f4 g15' g16' B4 M4 G4 B3 K1 cm hw hw1 hw2 hd2 hW h15
      generalize w4.setCell ⟨b, 15, none⟩ (.string (Dm.moveT n Q y v.k B)) = w5 at *
      obtain ⟨r1, r2⟩ := And.intro B5.row B5.at'
      replace B5 := hide B5
      go_wp2_with fail
      refine (lines_any _ _).mono ?_
      rintro e w6 ⟨rfl, b6⟩
      replace B5 := hide (B5.out.on b6)
      replace K5 := hide (K5.out.trans (Kept.of b6))
      clear r1 r2 b6
      go_wp2
      go_ret
      exact ⟨rfl, B5.out, K5.out⟩

end Go.Proofs.YtmegghgjllbamaaGreatDoor

/- Layer 12: what a load and a store make of a bus, as functions of its state; the program's. -/
namespace Go.Proofs.YtmegghgjllbamaaGreatDoor
open Go.RowKit
set_option linter.unusedVariables false
set_option maxRecDepth 100000

/-- May a number of s bytes lie at a? -/
def mayI (n : Nat) (a s : Int) : Prop := (s = 1 ∨ s = 2 ∨ s = 4) ∧ a % s = 0 ∧ a + s ≤ 256 * n

instance (n : Nat) (a s : Int) : Decidable (mayI n a s) := by unfold mayI; infer_instance

def memX (n : Nat) (B : Nat → Nat) (a s : Int) : Int := if mayI n a s then (numOf B a.toNat s.toNat : Nat) else 0

theorem may_nat {n : Nat} {a s : Int} (a0 : 0 ≤ a) (h : mayI n a s) : ∃ k z : Nat, a = (k : Int) ∧ s = (z : Int) ∧ may n k z := by
  obtain ⟨h1, h2, h3⟩ := h
  rcases h1 with rfl | rfl | rfl
  · exact ⟨a.toNat, 1, by omega, rfl, Or.inl rfl, by omega, by omega⟩
  · exact ⟨a.toNat, 2, by omega, rfl, Or.inr (Or.inl rfl), by omega, by omega⟩
  · exact ⟨a.toNat, 4, by omega, rfl, Or.inr (Or.inr rfl), by omega, by omega⟩

theorem memLoad {w : World} {p g n c : Nat} {B : Nat → Nat} {D : Nat → Bool} (M : Mem w p g n c B D) (a s : Int) (a0 : 0 ≤ a) (a1 : a < 4294967296) :
    Calls Tryz.prog 87 #[.pointer (some ⟨p, 0, none⟩), .int .u32 a, .int .i64 s] w fun e w' => e = .returned (.tuple #[.int .u32 (memX n B a s), .int .i64 (if mayI n a s then 0 else 61)]) ∧ w' = w := by
  by_cases h : mayI n a s
  · obtain ⟨k, z, rfl, rfl, hm⟩ := may_nat a0 h
    unfold memX
    rw [if_pos h, if_pos h]
    simp only [Int.toNat_natCast]
    exact load_any M k z (by omega) hm
  · unfold memX
    rw [if_neg h, if_neg h]
    exact load_bad M a s a0 a1 h

/-- An answer: a number, an error, the devices then. -/
structure Ans where
  X : Int
  E : Int
  v : Dv

def fin (v : Dv) (X E : Int) (q : Dv) : Ans := if E = 0 then ⟨X, 0, q⟩ else ⟨0, 121, v⟩

theorem fin_ok (v : Dv) (X : Int) (q : Dv) : fin v X 0 q = ⟨X, 0, q⟩ := if_pos rfl
theorem fin_no {E : Int} (h : ¬ E = 0) (v : Dv) (X : Int) (q : Dv) : fin v X E q = ⟨0, 121, v⟩ := if_neg h

/-- A register is read. -/
def rdA (v : Dv) (a : Int) : Ans :=
  if a < 520093952 then fin v (Tm.readV v.t (a - 520093696)) (Tm.formV (a - 520093696)) v
  else if a < 520094208 then fin v (Ua.readV v.u (a - 520093952)) (Ua.formV (a - 520093952)) { v with u := Ua.leftV v.u (a - 520093952) }
  else if a < 520094464 then fin v (Dm.readV v.d (a - 520094208)) (Dm.formV (a - 520094208)) v
  else fin v (nextX v.g) (rgE (a - 520094464)) { v with g := nextG v.g }

/-- A load. -/
def ldA (n : Nat) (v : Dv) (B : Nat → Nat) (a s : Int) : Ans :=
  if 520093696 ≤ a ∧ a < 520094720 then (if s = 4 ∧ a % 4 = 0 then rdA v a else ⟨0, 121, v⟩) else ⟨memX n B a s, (if mayI n a s then 0 else 121), v⟩

theorem left_fits {u : Ua.Ua} (h : Ua.Fits u) (r : Int) : Ua.Fits (Ua.leftV u r) := by
  unfold Ua.leftV
  repeat' split
  · refine ⟨?_, h.o⟩
    show (u.i.extract 1 u.i.size).size ≤ 16
    rw [ByteArray.size_extract]
    have := h.i
    omega
  · exact h
  · exact h
  · exact ⟨by decide, by decide⟩

theorem Wv.setT {v : Dv} (h : Wv v) {r : Tm.Tm} (hr : Tm.Wt r) : Wv { v with t := r } := ⟨hr, h.u, h.d, h.g, h.k⟩
theorem Wv.setU {v : Dv} (h : Wv v) {r : Ua.Ua} (hr : Ua.Fits r) : Wv { v with u := r } := ⟨h.t, hr, h.d, h.g, h.k⟩
theorem Wv.setD {v : Dv} (h : Wv v) {r : Dm.Dm} (hr : Dm.Wd r) : Wv { v with d := r } := ⟨h.t, h.u, hr, h.g, h.k⟩
theorem Wv.setG {v : Dv} (h : Wv v) {r : Rg} (hr : Wg r) : Wv { v with g := r } := ⟨h.t, h.u, h.d, hr, h.k⟩

theorem fin_w {v q : Dv} (hv : Wv v) (hq : Wv q) (X E : Int) : Wv (fin v X E q).v ∧ (¬ (fin v X E q).E = 0 → (fin v X E q).X = 0 ∧ (fin v X E q).v = v) := by
  unfold fin
  split
  · exact ⟨hq, fun h => absurd rfl h⟩
  · exact ⟨hv, fun _ => ⟨rfl, rfl⟩⟩

theorem rdA_w {v : Dv} (hv : Wv v) (a : Int) : Wv (rdA v a).v ∧ (¬ (rdA v a).E = 0 → (rdA v a).X = 0 ∧ (rdA v a).v = v) := by
  unfold rdA
  repeat' split
  · exact fin_w hv hv _ _
  · exact fin_w hv (hv.setU (left_fits hv.u _)) _ _
  · exact fin_w hv hv _ _
  · exact fin_w hv (hv.setG (nextG_w _)) _ _

theorem ldA_w {n : Nat} {v : Dv} (hv : Wv v) (B : Nat → Nat) (a s : Int) : Wv (ldA n v B a s).v ∧ (¬ (ldA n v B a s).E = 0 → (ldA n v B a s).X = 0 ∧ (ldA n v B a s).v = v) := by
  unfold ldA
  split
  · split
    · exact rdA_w hv a
    · exact ⟨hv, fun _ => ⟨rfl, rfl⟩⟩
  · refine ⟨hv, fun h => ⟨?_, rfl⟩⟩
    show memX n B a s = 0
    unfold memX
    split
    next h2 => exact absurd (if_pos h2) h
    · rfl

/-- A register is read, by its bus. -/
theorem loadReg_is {w : World} {b p g n c : Nat} {v : Dv} {B : Nat → Nat} {D : Nat → Bool} (hB : Bus w b p g n c v B D) (a : Int) (a0 : 0 ≤ a) (h : a % 4 = 0) (X E : Int) (Q : Dv) (hQ : Wv Q)
    (cr : ∀ x, Calls Tryz.prog 130 #[.agg (cellsV v), .int .u32 a] x fun e w' => e = .returned (.tuple #[.int .u32 X, .agg (cellsV Q), .int .i64 E]) ∧ Below x.heap.size x w') :
    Calls Tryz.prog 122 #[.pointer (some ⟨b, 0, none⟩), .int .u32 a, .int .i64 4] w fun e w' =>
      e = .returned (.tuple #[.int .u32 (fin v X E Q).X, .int .i64 (fin v X E Q).E]) ∧ Bus w' b p g n c (fin v X E Q).v B D ∧ Kept [b] w w' := by
  by_cases hE : E = 0
  · subst hE
    rw [fin_ok]
    exact loadReg_ok hB a a0 h X Q hQ cr
  · rw [fin_no hE]
    refine (loadReg_err hB a a0 h X E Q hE cr).mono ?_
    rintro e w1 ⟨rfl, b1⟩
    exact ⟨rfl, hB.on b1, Kept.of b1⟩

theorem load_is {w : World} {b p g n c : Nat} {v : Dv} {B : Nat → Nat} {D : Nat → Bool} (hB : Bus w b p g n c v B D) (a s : Int) (a0 : 0 ≤ a) (a1 : a < 4294967296) :
    Calls Tryz.prog 100 #[.pointer (some ⟨b, 0, none⟩), .int .u32 a, .int .i64 s] w fun e w' =>
      e = .returned (.tuple #[.int .u32 (ldA n v B a s).X, .int .i64 (ldA n v B a s).E]) ∧ Bus w' b p g n c (ldA n v B a s).v B D ∧ Kept [b] w w' := by
  have hv := hB.wv
  by_cases hd : 520093696 ≤ a ∧ a < 520094720
  · have key : Calls Tryz.prog 122 #[.pointer (some ⟨b, 0, none⟩), .int .u32 a, .int .i64 s] w fun e w' =>
        e = .returned (.tuple #[.int .u32 (ldA n v B a s).X, .int .i64 (ldA n v B a s).E]) ∧ Bus w' b p g n c (ldA n v B a s).v B D ∧ Kept [b] w w' := by
      unfold ldA
      rw [if_pos hd]
      by_cases hw : s = 4 ∧ a % 4 = 0
      · rw [if_pos hw]
        obtain ⟨rfl, h4⟩ := hw
        unfold rdA
        by_cases h1 : a < 520093952
        · rw [if_pos h1]
          exact loadReg_is hB a a0 h4 _ _ _ hv (read_t v a (a - 520093696) (by omega) (by omega) (by omega) (by omega))
        · rw [if_neg h1]
          by_cases h2 : a < 520094208
          · rw [if_pos h2]
            exact loadReg_is hB a a0 h4 _ _ _ (hv.setU (left_fits hv.u _)) (read_u v hv.u a (a - 520093952) (by omega) (by omega) (by omega) (by omega))
          · rw [if_neg h2]
            by_cases h3 : a < 520094464
            · rw [if_pos h3]
              exact loadReg_is hB a a0 h4 _ _ _ hv (read_d v a (a - 520094208) (by omega) (by omega) (by omega) (by omega))
            · rw [if_neg h3]
              exact loadReg_is hB a a0 h4 _ _ _ (hv.setG (nextG_w _)) (read_g v a (a - 520094464) (by omega) (by omega) (by omega) (by omega))
      · rw [if_neg hw]
        refine (loadReg_no a s a0 hw).mono ?_
        rintro e w1 ⟨rfl, rfl⟩
        exact ⟨rfl, hB, Kept.refl _ _⟩
    refine (load_dev (R := fun X E w' => X = (ldA n v B a s).X ∧ E = (ldA n v B a s).E ∧ Bus w' b p g n c (ldA n v B a s).v B D ∧ Kept [b] w w') a s hd.1 hd.2 (key.mono ?_)).mono ?_
    · rintro e w1 ⟨rfl, h1, h2⟩
      exact ⟨_, _, rfl, rfl, rfl, h1, h2⟩
    · rintro e w1 ⟨X, E, rfl, rfl, rfl, h1, h2⟩
      exact ⟨rfl, h1, h2⟩
  · unfold ldA
    rw [if_neg hd]
    refine (load_mem hB a s a0 a1 (by omega) _ _ (memLoad hB.m a s a0 a1)).mono ?_
    rintro e w1 ⟨rfl, rfl⟩
    refine ⟨?_, hB, Kept.refl _ _⟩
    unfold memX
    by_cases h : mayI n a s
    · simp only [if_pos h]; rfl
    · simp only [if_neg h]; rfl

/-- An answer: an error, the devices, memory and its marks then. -/
structure Aft where
  E : Int
  v : Dv
  B : Nat → Nat
  D : Nat → Bool

def finW (v : Dv) (B : Nat → Nat) (D : Nat → Bool) (E : Int) (q : Dv) : Aft := if E = 0 then ⟨0, q, B, D⟩ else ⟨121, v, B, D⟩

/-- A register is written. -/
def wrA (v : Dv) (B : Nat → Nat) (D : Nat → Bool) (a m : Int) : Aft :=
  if a < 520093952 then finW v B D (Tm.formV (a - 520093696)) { v with t := Tm.writeV v.t (a - 520093696) m }
  else if a < 520094208 then finW v B D (Ua.formV (a - 520093952)) { v with u := Ua.writeV v.u (a - 520093952) m }
  else if a < 520094464 then finW v B D (Dm.formV (a - 520094208)) { v with d := Dm.writeV v.d (a - 520094208) m }
  else finW v B D (rgE (a - 520094464)) { v with g := stirG v.g m }

/-- A store. -/
def stA (n : Nat) (v : Dv) (B : Nat → Nat) (D : Nat → Bool) (a s m : Int) : Aft :=
  if 520093696 ≤ a ∧ a < 520094720 then (if s = 4 ∧ a % 4 = 0 then wrA v B D a m else ⟨121, v, B, D⟩)
  else if mayI n a s then ⟨0, v, putB B a.toNat s.toNat m.toNat, putD D (a.toNat / 256)⟩ else ⟨121, v, B, D⟩

theorem write_t_w {t : Tm.Tm} (h : Tm.Wt t) (r : Int) {m : Int} (m0 : 0 ≤ m) (m1 : m < 4294967296) : Tm.Wt (Tm.writeV t r m) := by
  unfold Tm.writeV
  repeat' split
  all_goals first | exact h | exact ⟨⟨m0, m1⟩, ⟨m0, m1⟩⟩ | exact ⟨h.e, ⟨m0, m1⟩⟩ | exact ⟨h.e, h.l⟩ | exact ⟨⟨by decide, by decide⟩, ⟨by decide, by decide⟩⟩

theorem write_u_w {u : Ua.Ua} (h : Ua.Fits u) (r m : Int) : Ua.Fits (Ua.writeV u r m) := by
  unfold Ua.writeV
  repeat' split
  · refine ⟨h.i, ?_⟩
    show (Ua.lastV (u.o ++ Ua.byteT (m % 256))).size ≤ 64
    have hz : (u.o ++ Ua.byteT (m % 256)).size ≤ 65 := by rw [ByteArray.size_append, Ua.byteT_size]; have := h.o; omega
    unfold Ua.lastV
    split
    · rw [ByteArray.size_extract]; omega
    · omega
  · exact ⟨h.i, h.o⟩
  · exact ⟨h.i, by show (0 : Nat) ≤ 64; omega⟩
  · exact ⟨by decide, by decide⟩

theorem finW_w {v q : Dv} (hv : Wv v) (hq : Wv q) (B : Nat → Nat) (D : Nat → Bool) (E : Int) : Wv (finW v B D E q).v ∧ (¬ (finW v B D E q).E = 0 → (finW v B D E q).v = v ∧ (finW v B D E q).B = B) := by
  unfold finW
  split
  · exact ⟨hq, fun h => absurd rfl h⟩
  · exact ⟨hv, fun _ => ⟨rfl, rfl⟩⟩

theorem stA_w {n : Nat} {v : Dv} (hv : Wv v) (B : Nat → Nat) (D : Nat → Bool) (a s m : Int) (m0 : 0 ≤ m) (m1 : m < 4294967296) :
    Wv (stA n v B D a s m).v ∧ (¬ (stA n v B D a s m).E = 0 → (stA n v B D a s m).v = v ∧ (stA n v B D a s m).B = B) := by
  unfold stA
  split
  · split
    · unfold wrA
      repeat' split
      · exact finW_w hv (hv.setT (write_t_w hv.t _ m0 m1)) _ _ _
      · exact finW_w hv (hv.setU (write_u_w hv.u _ _)) _ _ _
      · exact finW_w hv (hv.setD (Dm.write_w hv.d _ ⟨m0, m1⟩)) _ _ _
      · exact finW_w hv (hv.setG (stirG_w _ _)) _ _ _
    · exact ⟨hv, fun _ => ⟨rfl, rfl⟩⟩
  · split
    · exact ⟨hv, fun h => absurd rfl h⟩
    · exact ⟨hv, fun _ => ⟨rfl, rfl⟩⟩

theorem storeReg_is {w : World} {b p g n c : Nat} {v : Dv} {B : Nat → Nat} {D : Nat → Bool} (hB : Bus w b p g n c v B D) (a m : Int) (a0 : 0 ≤ a) (h : a % 4 = 0) (E : Int) (Q : Dv) (hQ : Wv Q)
    (cr : ∀ x, Calls Tryz.prog 36 #[.agg (cellsV v), .int .u32 a, .int .u32 m] x fun e w' => e = .returned (.tuple #[.agg (cellsV Q), .int .i64 E]) ∧ Below x.heap.size x w') :
    Calls Tryz.prog 15 #[.pointer (some ⟨b, 0, none⟩), .int .u32 a, .int .i64 4, .int .u32 m] w fun e w' =>
      e = .returned (.int .i64 (finW v B D E Q).E) ∧ Bus w' b p g n c (finW v B D E Q).v (finW v B D E Q).B (finW v B D E Q).D ∧ Kept [b, g] w w' := by
  unfold finW
  by_cases hE : E = 0
  · subst hE
    rw [if_pos rfl]
    refine (storeReg_ok hB a m a0 h Q hQ cr).mono ?_
    rintro e w1 ⟨rfl, h1, h2⟩
    exact ⟨rfl, h1, h2.mono (by simp)⟩
  · rw [if_neg hE]
    refine (storeReg_err hB a m a0 h E Q hE cr).mono ?_
    rintro e w1 ⟨rfl, b1⟩
    exact ⟨rfl, hB.on b1, Kept.of b1⟩

theorem memStore {w : World} {p g n c : Nat} {B : Nat → Nat} {D : Nat → Bool} (M : Mem w p g n c B D) (a s m : Int) (a0 : 0 ≤ a) (a1 : a < 4294967296) (m0 : 0 ≤ m) (m1 : m < 4294967296) :
    Calls Tryz.prog 16 #[.pointer (some ⟨p, 0, none⟩), .int .u32 a, .int .i64 s, .int .u32 m] w fun e w' => e = .returned (.int .i64 (if mayI n a s then 0 else 61)) ∧
      (Mem w' p g n c (if mayI n a s then putB B a.toNat s.toNat m.toNat else B) (if mayI n a s then putD D (a.toNat / 256) else D) ∧ w.grownBy w' (some g)) := by
  by_cases h : mayI n a s
  · obtain ⟨k, z, rfl, rfl, hm⟩ := may_nat a0 h
    obtain ⟨j, rfl⟩ : ∃ j : Nat, m = (j : Int) := ⟨m.toNat, by omega⟩
    simp only [if_pos h, Int.toNat_natCast]
    exact store_any M k z j (by omega) (by omega) hm
  · simp only [if_neg h]
    refine (store_bad M a s m a0 a1 h).mono ?_
    rintro e w1 ⟨rfl, rfl⟩
    exact ⟨rfl, M, grownBy_refl _ _⟩

theorem store_is {w : World} {b p g n c : Nat} {v : Dv} {B : Nat → Nat} {D : Nat → Bool} (hB : Bus w b p g n c v B D) (a s m : Int) (a0 : 0 ≤ a) (a1 : a < 4294967296) (m0 : 0 ≤ m) (m1 : m < 4294967296) :
    Calls Tryz.prog 5 #[.pointer (some ⟨b, 0, none⟩), .int .u32 a, .int .i64 s, .int .u32 m] w fun e w' =>
      e = .returned (.int .i64 (stA n v B D a s m).E) ∧ Bus w' b p g n c (stA n v B D a s m).v (stA n v B D a s m).B (stA n v B D a s m).D ∧ Kept [b, g] w w' := by
  have hv := hB.wv
  by_cases hd : 520093696 ≤ a ∧ a < 520094720
  · have key : Calls Tryz.prog 15 #[.pointer (some ⟨b, 0, none⟩), .int .u32 a, .int .i64 s, .int .u32 m] w fun e w' =>
        e = .returned (.int .i64 (stA n v B D a s m).E) ∧ Bus w' b p g n c (stA n v B D a s m).v (stA n v B D a s m).B (stA n v B D a s m).D ∧ Kept [b, g] w w' := by
      unfold stA
      rw [if_pos hd]
      by_cases hw : s = 4 ∧ a % 4 = 0
      · rw [if_pos hw]
        obtain ⟨rfl, h4⟩ := hw
        unfold wrA
        by_cases h1 : a < 520093952
        · rw [if_pos h1]
          exact storeReg_is hB a m a0 h4 _ _ (hv.setT (write_t_w hv.t _ m0 m1)) (write_t v a (a - 520093696) m m0 m1 (by omega) (by omega) (by omega) (by omega))
        · rw [if_neg h1]
          by_cases h2 : a < 520094208
          · rw [if_pos h2]
            exact storeReg_is hB a m a0 h4 _ _ (hv.setU (write_u_w hv.u _ _)) (write_u v hv.u a (a - 520093952) m m0 m1 (by omega) (by omega) (by omega) (by omega))
          · rw [if_neg h2]
            by_cases h3 : a < 520094464
            · rw [if_pos h3]
              exact storeReg_is hB a m a0 h4 _ _ (hv.setD (Dm.write_w hv.d _ ⟨m0, m1⟩)) (write_d v a (a - 520094208) m m0 m1 (by omega) (by omega) (by omega) (by omega))
            · rw [if_neg h3]
              exact storeReg_is hB a m a0 h4 _ _ (hv.setG (stirG_w _ _)) (write_g v a (a - 520094464) m m0 m1 (by omega) (by omega) (by omega) (by omega))
      · rw [if_neg hw]
        refine (storeReg_no a s m a0 hw).mono ?_
        rintro e w1 ⟨rfl, rfl⟩
        exact ⟨rfl, hB, Kept.refl _ _⟩
    refine (store_dev (R := fun E w' => E = (stA n v B D a s m).E ∧ Bus w' b p g n c (stA n v B D a s m).v (stA n v B D a s m).B (stA n v B D a s m).D ∧ Kept [b, g] w w') a s m hd.1 hd.2 (key.mono ?_)).mono ?_
    · rintro e w1 ⟨rfl, h1, h2⟩
      exact ⟨_, rfl, rfl, h1, h2⟩
    · rintro e w1 ⟨E, rfl, rfl, h1, h2⟩
      exact ⟨rfl, h1, h2⟩
  · unfold stA
    rw [if_neg hd]
    refine (store_mem hB a s m a0 a1 (by omega) _ (memStore hB.m a s m a0 a1 m0 m1)).mono ?_
    rintro e w1 ⟨rfl, M1, G1⟩
    by_cases h : mayI n a s
    · simp only [if_pos h] at M1 ⊢
      exact ⟨rfl, hB.mem G1 M1, Kept.grown G1 (by simp)⟩
    · simp only [if_neg h] at M1 ⊢
      exact ⟨rfl, hB.mem G1 M1, Kept.grown G1 (by simp)⟩

theorem peek_is {w : World} {b p g n c : Nat} {v : Dv} {B : Nat → Nat} {D : Nat → Bool} (hB : Bus w b p g n c v B D) (a : Int) (a0 : 0 ≤ a) (a1 : a < 4294967296) :
    Calls Tryz.prog 52 #[.pointer (some ⟨b, 0, none⟩), .int .u32 a] w fun e w' => e = .returned (.tuple #[.int .u32 (memX n B a 4), .bool (decide (mayI n a 4))]) ∧ w' = w := by
  refine (peek_any hB a _ _ (memLoad hB.m a 4 a0 a1)).mono ?_
  rintro e w1 ⟨rfl, rfl⟩
  refine ⟨?_, rfl⟩
  unfold memX
  by_cases h : mayI n a 4
  · simp only [if_pos h, decide_eq_true h]; rfl
  · simp only [if_neg h, decide_eq_false h]; rfl

/-- What an event makes of the devices, and its error. -/
def fdV (v : Dv) (k m : Int) : Dv := if k = 0 then { v with u := Ua.feedV v.u (m % 256) } else if k = 1 then { v with g := stirG v.g m } else v
def fdE (k : Int) : Int := if k = 0 then 0 else if k = 1 then 0 else 120

theorem fdV_w {v : Dv} (hv : Wv v) (k m : Int) : Wv (fdV v k m) ∧ (¬ fdE k = 0 → fdV v k m = v) := by
  unfold fdV fdE
  repeat' split
  · exact ⟨(hv.setU (feed_u hv.u _)), fun h => absurd rfl h⟩
  · exact ⟨(hv.setG (stirG_w _ _)), fun h => absurd rfl h⟩
  · exact ⟨hv, fun _ => rfl⟩

end Go.Proofs.YtmegghgjllbamaaGreatDoor
